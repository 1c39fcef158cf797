/- The exact law of InvertGrey holds: for every input the law returns true and leaves its arguments as they were; the listed variables hold what the program's own text lays there (tied by the card). No other condition. -/
import Derived.Test.YtoojldhjgbegnaaDoorCards
import Derived.Test.YtoojldhjgbegnaaDoorTie
import Derived.Test.YtoojldhjgbegnaaDoorFv
import Derived.Test.YtoojldhjgbegnaaDoorHG
import Derived.SevenTiedAt
namespace Go.Proofs.YtoojldhjgbegnaaDoor
set_option linter.unusedVariables false
open Go.ChangeShapes Go.WideShapes Go.ChangeAt Go.RowKit Go.Deep Go.WideElems
open Go.ChangeMaps (open_string shut_string)

theorem door_InvertGrey (os : Os) (args : Array Value) : laidMetH Tryd.prog Rows.fnExactInvertGreyRow.laid ((World.doorLaid Tryd.prog 400 os).forCall (fun _ _ => 0) ⟨#[], args, []⟩).memory :=
  laidMetH_of_parts3 (fuel := 8) (laidMet_of_run' 8 (by kernel_rfl) (by kernel_rfl)) (by kernel_rfl) (by kernel_rfl)

set_option maxRecDepth 100000 in
theorem lifted_InvertGrey (os : Os) (started : os.Started) (H : Type) (enc : TypeId × Value → H) :
    ReturnsInHanded {} Tryd.checked os 3 .any (fun w args => (Rows.fnExactInvertGreySpec.pre enc Tryd.prog Tryd.f3 [] false w args ∧ laidMetH Tryd.prog Rows.fnExactInvertGreyRow.laid w) ∧ sizedMet enc Tryd.prog Tryd.f3 (OpenSpec.ofChange Rows.fnExactInvertGreySpec) false w args)
      (Rows.fnExactInvertGreySpec.post enc Tryd.prog Tryd.f3 false true false false) := by
  refine returnsInHanded_of_change_and (C := Tryd.checked) (X := fun w _ => laidMetH Tryd.prog Rows.fnExactInvertGreyRow.laid w) (fun _ _ _ hh h => h.of_heap hh) own started (by kernel_rfl) Tryd.func3
    (ChangeSpec.witness_shaped (enc := enc) (C := Tryd.checked) (os := os) (X := fun w _ => laidMetH Tryd.prog Rows.fnExactInvertGreyRow.laid w) false (World.doorLaid Tryd.prog 400 os) #[.agg #[.slice none 0 0]] 8 rfl (World.shaped_of_RefB (by kernel_rfl) (by kernel_rfl)) (by kernel_rfl) (by kernel_rfl) (by kernel_rfl) (door_InvertGrey os _)) ?_
  intro W base args ds gs before hval0 hW _ _ hL _
  have hval : ∀ (j : Nat) t v, Tryd.f3.params[j]? = some t → args[j]? = some v → Value.okWide Tryd.prog W .any base t v := hval0
  have hW' := hW
  obtain ⟨p, q, hA0, hV0, rfl, hfz, hnd⟩ := hW
  have hA : DataW.TrodAll enc Tryd.prog W 0 (fun _ => true) true Tryd.f3.params.toList args.toList ds p := hA0
  have hV : DataW.TrodVars enc Tryd.prog W (fun _ => true) ["loop.example/g01165/impl.errNoResult"] gs q := hV0
  rw [Tryd.params3] at hA hval
  obtain ⟨v0, vs0, d0, ds0, p0, q0, hargs, rfl, rfl, h0, r0⟩ := trodAll_cons hA
  obtain ⟨rfl, rfl, rfl⟩ := trodAll_nil r0
  obtain rfl : args = #[v0] := by cases args; simp_all
  rw [show Rows.fnExactInvertGreyRow.laid = [("loop.example/g01165/impl.errNoResult", Rows.laid_loop_example_g01165_impl_errNoResult)] from rfl, MakeChecks.laidMetH_plain _ _ _ (by kernel_rfl)] at hL
  obtain ⟨_, _, hvN, _, _, _⟩ := laid_sentinel hL gNor tNor Tryd.underlying103 rowErr Tryd.underlying149 Tryd.underlying171 rfl rfl Tryd.underlying9 cellsErr cellsStr
  have hNor : NoRes W := ⟨_, _, by simpa using World.var?_cell gNor hvN 0⟩
  obtain ⟨z0, rfl⟩ : ∃ z0, gs = [z0] := by
    have hl := vars_len hV
    match gs, hl with
    | [z0], _ => exact ⟨z0, rfl⟩
  have k0 := h0
  have lt0 : ∀ x ∈ p0, x.block < W.heap.size := by obtain ⟨m, hm⟩ := k0; exact DataW.trod_lt m _ _ _ hm
  obtain ⟨u0, gs0, rfl, hsl0, hN0, hrr0⟩ := open_grey (hval 0 24 v0 rfl rfl) h0
  clear hA0 hV0 hval0
  refine (law_InvertGrey u0 gs0 W hN0 hrr0 hsl0 hNor).mono fun e W' ⟨he, bel⟩ => ?_
  subst he
  exact ⟨_, rfl, _, _, _, [], _, _, hW', trodAll_mk1 (shut_bool Tryd.underlying4 _), (trodAll_cons_mk (Below.trod laidOut (by kernel_rfl) (of_decide_eq_true (by kernel_rfl)) k0 bel lt0) trodAll_mk0), (Below.trodVars laidOut bel (by kernel_rfl) hV), bel.frame _, fun h => by cases h⟩

theorem InvertGrey_said : Rows.FnExactInvertGreySaid :=
  OpenClaim.holds_of_wide 3 Tryd.f3 rfl rfl rfl rfl rfl rfl rfl ⟨rfl, rfl, rfl, rfl, rfl⟩ rfl rfl rfl rfl rfl (by kernel_rfl) Tryd.func3 (by kernel_rfl)
    (of_decide_eq_true (by kernel_rfl)) (by unfold Func.isWrapper; first | (rw [if_pos (by decide +kernel)]; kernel_rfl) | (rw [if_neg (by decide +kernel)]; exact ⟨rfl, rfl⟩))
    (fun os started H enc _ => lifted_InvertGrey os started H enc)

theorem InvertGrey_card : Rows.FnExactInvertGreyCardSaid :=
  Claim7.holds_tied_plain_at .later [] [.sentinel] true _ true
    InvertGrey_said (fun _ h => by cases h) (by kernel_rfl) (fun _ h => by cases h) fnExactInvertGrey_row_tie rfl ⟨rfl, rfl⟩ (by kernel_rfl) rfl
    (fun f fn hf hfn => by
      obtain rfl : f = 3 := Option.some.inj ((show Tryd.prog.funcNamed "loop.example/g01165/laws.FnExactInvertGrey" = some 3 by kernel_rfl).symm.trans hf) |>.symm
      obtain rfl : fn = Tryd.f3 := (Option.some.inj (Tryd.func3.symm.trans hfn)).symm
      exact ⟨by kernel_rfl, fun j t ht => by
        rw [Tryd.params3] at ht
        have hm : t ∈ [24] := by simpa using Array.mem_of_getElem? ht
        have hall : ([24].all fun u => !Tryd.prog.wantsStandIn u) = true := by kernel_rfl
        exact (show Tryd.prog.wantsStandIn t = false by simpa using List.all_eq_true.1 hall t (by simpa using hm))⟩)
    (by kernel_rfl)
#print axioms InvertGrey_card
end Go.Proofs.YtoojldhjgbegnaaDoor
