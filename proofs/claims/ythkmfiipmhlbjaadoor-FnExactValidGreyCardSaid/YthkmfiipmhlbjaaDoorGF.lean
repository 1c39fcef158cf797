/- Contracts of single functions, and plain lemmas, on which the exact laws of this seat rest; each holds under the conditions that it states. -/
import Derived.Test.YthkmfiipmhlbjaaDoorAL1
import Derived.Test.YthkmfiipmhlbjaaDoorSz
import Derived.Test.YthkmfiipmhlbjaaDoorTo
import Derived.Test.YthkmfiipmhlbjaaDoorEq
import Derived.Test.YthkmfiipmhlbjaaDoorPb
import Derived.Test.YthkmfiipmhlbjaaDoorBq
import Derived.Test.YthkmfiipmhlbjaaDoorHd
import Derived.Test.YthkmfiipmhlbjaaDoorGB
import Derived.Test.YthkmfiipmhlbjaaDoorGE
import Derived.Deep.RegionHeld3
import Derived.Deep.DeepCutAuto
namespace Go.Proofs.YthkmfiipmhlbjaaDoor
set_option linter.unusedVariables false
set_option linter.unusedSimpArgs false
open Go.RowKit

set_option maxHeartbeats 12000000 in
set_option maxRecDepth 100000 in
theorem law_ValidGrey (u0 : Value) (gs0 : List (List Int)) (w : World) (hN0 : gs0.length ≤ maxLen) (hr0 : ∀ i, i < gs0.length → (rowF gs0 i).length ≤ maxLen) (hu0 : SlG w u0 gs0) (he0 : NoRes w) :
    Calls Tryd.prog 3 #[.agg #[u0]] w fun e w' => e = .returned (.bool true) ∧ Below w.heap.size w w' := by
  have HSL0 : Hid (∀ W, Below w.heap.size w W → SlG W u0 gs0) := fun W hb => hu0.below hb
  have HEN : Hid (∀ W, Below w.heap.size w W → NoRes W) := fun W hb => he0.below hb
  obtain ⟨W0, hW0⟩ : ∃ W0, (w.alloc (.cells #[u0] 24)) = W0 := ⟨_, rfl⟩
  have b0 : Below w.heap.size w W0 := by rw [← hW0]; exact ((Below.refl w.heap.size w).alloc (by first | (simp; done) | (simp; omega)) _)
  have hp0 : W0.heap[w.heap.size + 0]? = some (.cells #[u0] 24 (0, 0)) := by
    rw [← hW0]
    have := heap_alloc_last w (.cells #[u0] 24)
    simpa using this
  have HC : Hid (∀ W, Below W0.heap.size W0 W → W.cell? ⟨w.heap.size, 0, none⟩ = some u0) := fun W hb => cell_kept hb (by have := Joins.cell_of_block hp0 0; simpa using this)
  have HB : Hid (∀ W, Below W0.heap.size W0 W → Below w.heap.size w W) := fun W hb => b0.trans (hb.mono b0.size)
  have HZ0 : Hid (∀ (left : Int) W, 0 ≤ left → left ≤ 1048576 → Below W0.heap.size W0 W → Calls Tryd.prog 11 #[.agg #[u0], .int .i64 left] W (SomeSzG left gs0 W)) := fun left W h0 h1 hb => szGrey_any u0 gs0 left W h0 h1 hN0 hr0 (HSL0.out _ (HB.out _ hb))
  have HW := Lib.hid hW0
  have l0 := b0.size
  have c0_0 := (HC.out W0 (Below.refl _ _))
  clear b0 hW0 hp0 hu0 he0
  go_enter Tryd.func3, Tryd.ntmps3
  go_wp2_with fail
  rw [HW.out]
  refine (HZ0.out 1048576 _ (by omega) (by omega) (Below.refl _ _)).mono ?_
  rintro e wz0 ⟨r0, rfl, hr0, hs0, hq, hb⟩
  have Vwz0 := Lib.hid (hb)
  clear hb c0_0
  by_cases hr : r0 < 0
  · clear hq
    go_wp2_with fail
    go_ret
    exact ⟨rfl, HB.out _ Vwz0.out⟩
  · have hsm0 : gs0.length + totG gs0 ≤ 1048576 := by have := hq (by omega); omega
    clear hq
    have HTA0 : Hid (∀ W, Below W0.heap.size W0 W → Calls Tryd.prog 13 #[.agg #[u0]] W (TookG W gs0)) := fun W hb => toGrey_any u0 gs0 W (by omega) (rows_small hsm0) (HSL0.out _ (HB.out _ hb))
    have CE0 : Hid (∀ x y W, SlG W x gs0 → SlG W y gs0 → Calls Tryd.prog 15 #[.agg #[x], .agg #[y]] W (SaysB true W)) := fun x y W hx hy => eqGrey_same x y gs0 W (by omega) (rows_max hsm0) hx hy
    obtain ⟨ok, hS, hI⟩ : ∃ (ok : Bool), (∀ x0 W, SlG W x0 gs0 → Calls Tryd.prog 12 #[.agg #[x0]] W (fun e w' => e = .returned (.bool ok) ∧ Below W.heap.size W w')) ∧ (∀ x0 W, SlG W x0 gs0 → (NoRes W) → Calls Tryd.prog 14 #[.agg #[x0]] W (fun e w' => e = .returned (.bool ok) ∧ Below W.heap.size W w')) := ⟨vG 99 gs0, fun x0 W a => spec_ValidGrey x0 gs0 W (by omega) (rows_small hsm0) a, fun x0 W a e => impl_ValidGrey x0 gs0 W (by omega) (rows_small hsm0) a e⟩
    have CS := Lib.hid hS
    have CI := Lib.hid hI
    clear hS hI
    have lz := Vwz0.out.size
    have cc0 := (HC.out _ Vwz0.out)
    go_wp2_with fail
    refine (HTA0.out _ Vwz0.out).mono ?_
    rintro e w6 ⟨gw6, capw6, rfl, hown, hb⟩
    have S0 := Lib.hid (GreyO.sl (GreyO.of hown (Nat.le_refl _)))
    have Vw6 := Lib.hid (Vwz0.out.trans (hb.mono Vwz0.out.size))
    have lw6 : wz0.heap.size ≤ w6.heap.size := hb.size
    clear hb hown cc0 Vwz0
    have cc0 := (HC.out _ Vw6.out)
    go_wp2_with fail
    refine (CS.out _ _ S0.out).mono ?_
    rintro e w7 ⟨rfl, hb⟩
    have Vw7 := Lib.hid (Vw6.out.trans (hb.mono Vw6.out.size))
    have lw7 : w6.heap.size ≤ w7.heap.size := hb.size
    clear hb cc0 Vw6 S0
    have cc0 := (HC.out _ Vw7.out)
    go_wp2_with fail
    refine (HTA0.out _ Vw7.out).mono ?_
    rintro e w8 ⟨gw8, capw8, rfl, hown, hb⟩
    have lw8 : w7.heap.size ≤ w8.heap.size := by have := hb.size; simpa using this
    have X0 := Lib.hid (VarO.new (t := 27) (v := .slice (some ⟨gw8, 0, none⟩) gs0.length capw8) (L := w7.heap.size) (GreyO.of hown (Nat.le_refl _)) GreyO.liv (Nat.le_refl _) (far_alloc _ _) (by simp) lw8)
    have hba := hb.trans ((Joins.below_alloc1 w8 (.cells #[.slice (some ⟨gw8, 0, none⟩) gs0.length capw8] 27)).mono hb.size)
    have hf := Far.ofB hba
    have Vw8 := Lib.hid (Vw7.out.trans (hba.mono Vw7.out.size))
    clear hb hown hba hf cc0 Vw7
    have xv0 := X0.out.val
    have cc0 := (HC.out _ Vw8.out)
    go_wp2_with fail
    refine (CI.out _ _ (GreyO.sl X0.out.o) (HEN.out _ (HB.out _ Vw8.out))).mono ?_
    rintro e w9 ⟨rfl, hb⟩
    have hf := Far.ofB hb
    have X0 := Lib.hid (X0.out.far0 hf)
    have Vw9 := Lib.hid (Vw8.out.trans (hb.mono Vw8.out.size))
    clear hb hf xv0 cc0 Vw8
    have HX : Hid (∀ W, Below w9.heap.size w9 W → W.cell? ⟨w.heap.size, 0, none⟩ = some u0 ∧ W.cell? ⟨w8.heap.size, 0, none⟩ = some (.slice (some ⟨gw8, 0, none⟩) gs0.length capw8)) := fun W hb => ⟨(HC.out _ (Vw9.out.trans (hb.mono Vw9.out.size))), (X0.out.far0 (Far.ofB hb)).val⟩
    have HT1 : Hid (∀ W, Below w9.heap.size w9 W → Calls Tryd.prog 13 #[.agg #[u0]] W (TookG W gs0)) := fun W hb => HTA0.out _ (Vw9.out.trans (hb.mono Vw9.out.size))
    have HE1 : Hid (∀ W x, Below w9.heap.size w9 W → SlG W x gs0 → Calls Tryd.prog 15 #[.agg #[.slice (some ⟨gw8, 0, none⟩) gs0.length capw8], .agg #[x]] W (SaysB true W)) := fun W x hb hx => CE0.out _ x W (GreyO.sl (X0.out.far0 (Far.ofB hb)).o) hx
    go_wp2_with fail
    go_region_held3 (fun w' => w'.cell? ⟨w.heap.size, 0, none⟩ = some u0 ∧ w'.cell? ⟨w8.heap.size, 0, none⟩ = some (.slice (some ⟨gw8, 0, none⟩) gs0.length capw8))
      (first | exact HX.out _ (Below.refl _ _) | exact HX.out _ (Below.refl _ _).drew | exact HX.out _ ((Below.refl _ _).drew.trans hba) | exact HX.out _ (((Below.refl _ _).drew.trans hba).trans (hbb.mono hba.size)))
      (first | (go_at_call 13; refine (HT1.out _ (Below.refl _ _).drew).mono ?_; rintro e w10 ⟨ga, capa, rfl, howna, hba⟩) | (go_at_call 15; refine (HE1.out _ _ ((Below.refl _ _).drew.trans hba) (GreyO.sl (GreyO.of howna (Nat.le_refl _)))).mono ?_; rintro e w11 ⟨rfl, hbb⟩))
    have hbc := (Below.refl w9.heap.size w9).drew.trans (hba.trans (hbb.mono hba.size))
    have hf := Far.ofB hbc
    have X0 := Lib.hid (X0.out.far0 hf)
    have Vw11 := Lib.hid (Vw9.out.trans (hbc.mono Vw9.out.size))
    clear hba hbb hbc hf howna HX HT1 HE1 Vw9
    clear X0
    go_wp2
    go_ret
    exact ⟨rfl, HB.out _ Vw11.out⟩
end Go.Proofs.YthkmfiipmhlbjaaDoor
