/- The exact law of ReadPicture holds: for every string the law returns true and leaves its argument as it was; the listed variables hold what the program's own text lays there (tied by the card). No other condition. -/
import Derived.Test.YtmbkmkpclfgppaaDoorCards
import Derived.Test.YtmbkmkpclfgppaaDoorTie
import Derived.Test.YtmbkmkpclfgppaaDoorFg
import Derived.Test.YtmbkmkpclfgppaaDoorZw
import Derived.SevenTiedAt
namespace Go.Proofs.YtmbkmkpclfgppaaDoor
set_option linter.unusedVariables false
open Go.ChangeShapes Go.WideShapes Go.ChangeAt Go.RowKit Go.Deep Go.WideElems
open Go.ChangeMaps (open_string shut_string)

theorem gCnt : Tryd.prog.globalNamed "loop.example/g01165/impl.errRowCount" = some 0 := by kernel_rfl
theorem tCnt : (Tryd.prog.globals[0]?).map (·.type) = some 31 := by kernel_rfl
theorem gTyp : Tryd.prog.globalNamed "errors.errorType" = some 2 := by kernel_rfl
theorem rtRow : (Tryd.prog.cutTypes.find? (·.1 == "internal/reflectlite.rtype")).map (·.2) = some 79 := by kernel_rfl
theorem oneRow : ((List.range Tryd.prog.types.size).filter fun t => Tryd.prog.rowNamed t [101, 114, 114, 111, 114]) = [31] := by kernel_rfl
/-- what the condition gives of the type of errors -/
theorem errType_of {r : List (String × DataW Unit)} {W : World} (h : handlesMet Tryd.prog (("errors.errorType", Rows.laid_errors_errorType) :: r) W) : ErrType W := by
  obtain ⟨name, u, ty, e1, e2, e3, e4, e5⟩ := h _ (List.mem_cons_self ..)
  have en : name = [101, 114, 114, 111, 114] := (Option.some.inj e1).symm
  subst en
  obtain rfl := Option.some.inj (rtRow.symm.trans e2)
  have hm : ty ∈ (List.range Tryd.prog.types.size).filter fun t => Tryd.prog.rowNamed t [101, 114, 114, 111, 114] := List.mem_filter.2 ⟨List.mem_range.2 e3, e4⟩
  rw [oneRow] at hm
  obtain rfl := List.mem_singleton.1 hm
  have hh : Value.agg #[typeHandle Tryd.prog 31] = tyV 31 := by kernel_rfl
  rw [hh] at e5
  unfold ErrType
  simpa using World.var?_cell gTyp e5 0

theorem door_ReadPicture (os : Os) (args : Array Value) : laidMetH Tryd.prog Rows.fnExactReadPictureRow.laid ((World.doorLaid Tryd.prog 400 os).forCall (fun _ _ => 0) ⟨#[], args, []⟩).memory :=
  laidMetH_of_parts3 (fuel := 8) (laidMet_of_run' 8 (by kernel_rfl) (by kernel_rfl)) (by kernel_rfl) (by kernel_rfl)

set_option maxRecDepth 100000 in
theorem lifted_ReadPicture (os : Os) (started : os.Started) (H : Type) (enc : TypeId × Value → H) :
    ReturnsInHanded {} Tryd.checked os 3 .any (fun w args => (Rows.fnExactReadPictureSpec.pre enc Tryd.prog Tryd.f3 [] false w args ∧ laidMetH Tryd.prog Rows.fnExactReadPictureRow.laid w) ∧ sizedMet enc Tryd.prog Tryd.f3 (OpenSpec.ofChange Rows.fnExactReadPictureSpec) false w args)
      (Rows.fnExactReadPictureSpec.post enc Tryd.prog Tryd.f3 false true false false) := by
  refine returnsInHanded_of_change_and (C := Tryd.checked) (X := fun w _ => laidMetH Tryd.prog Rows.fnExactReadPictureRow.laid w) (fun _ _ _ hh h => h.of_heap hh) own started (by kernel_rfl) Tryd.func3
    (ChangeSpec.witness_shaped (enc := enc) (C := Tryd.checked) (os := os) (X := fun w _ => laidMetH Tryd.prog Rows.fnExactReadPictureRow.laid w) false (World.doorLaid Tryd.prog 400 os) #[.string ⟨#[]⟩] 8 rfl (World.shaped_of_RefB (by kernel_rfl) (by kernel_rfl)) (by kernel_rfl) (by kernel_rfl) (by kernel_rfl) (door_ReadPicture os _)) ?_
  intro W base args ds gs before hval0 hW _ _ hL _
  have hval : ∀ (j : Nat) t v, Tryd.f3.params[j]? = some t → args[j]? = some v → Value.okWide Tryd.prog W .any base t v := hval0
  have hW' := hW
  obtain ⟨p, q, hA0, hV0, rfl, hfz, hnd⟩ := hW
  have hA : DataW.TrodAll enc Tryd.prog W 0 (fun _ => true) true Tryd.f3.params.toList args.toList ds p := hA0
  have hV : DataW.TrodVars enc Tryd.prog W (fun _ => true) ["loop.example/g01165/impl.errRowCount", "loop.example/g01165/impl.errRowLength"] gs q := hV0
  rw [Tryd.params3] at hA hval
  obtain ⟨v0, vs0, d0, ds0, p0, q0, hargs, rfl, rfl, h0, r0⟩ := trodAll_cons hA
  obtain ⟨rfl, rfl, rfl⟩ := trodAll_nil r0
  obtain rfl : args = #[v0] := by cases args; simp_all
  have hL2 : laidMet Tryd.prog [("bytes.ErrTooLarge", Rows.laid_bytes_ErrTooLarge), ("loop.example/g01165/impl.errRowLength", Rows.laid_loop_example_g01165_impl_errRowLength), ("loop.example/g01165/impl.errRowCount", Rows.laid_loop_example_g01165_impl_errRowCount)] W ∧ handlesMet Tryd.prog [("errors.errorType", Rows.laid_errors_errorType)] W := hL
  have hTy := errType_of hL2.2
  obtain ⟨a1', s1', hv1, hc1, hs1, hz1⟩ := laid_sentinel hL2.1.tail gErr tErr Tryd.underlying31 rowErr Tryd.underlying98 Tryd.underlying117 rfl rfl Tryd.underlying9 cellsErr cellsStr
  obtain ⟨a2', s2', hv2, hc2, hs2, hz2⟩ := laid_sentinel hL2.1.tail.tail gCnt tCnt Tryd.underlying31 rowErr Tryd.underlying98 Tryd.underlying117 rfl rfl Tryd.underlying9 cellsErr cellsStr
  obtain ⟨rfl, rfl⟩ := hV.unique (vars_read2 enc gCnt tCnt Tryd.underlying31 hv2 trivial gErr tErr Tryd.underlying31 hv1 trivial _)
  have cL : W.cell? ⟨1, 0, none⟩ = some (.iface 98 (.pointer (some a1'))) := by simpa using World.var?_cell gErr hv1 0
  have cC : W.cell? ⟨0, 0, none⟩ = some (.iface 98 (.pointer (some a2'))) := by simpa using World.var?_cell gCnt hv2 0
  have hT : TextVars W := ⟨⟨_, cL⟩, ⟨_, _, cC⟩, hTy⟩
  obtain ⟨s0, rfl, rfl, rfl, w0⟩ := open_string Tryd.underlying9 (hval 0 9 v0 rfl rfl) h0
  clear hA0 hV0 hval0
  refine (law_ReadPicture s0 W w0 hT).mono fun e W' ⟨he, bel⟩ => ?_
  subst he
  exact ⟨_, rfl, _, _, _, [], _, _, hW', trodAll_mk1 (shut_bool Tryd.underlying4 _), (trodAll_cons_mk (shut_string Tryd.underlying9 w0) trodAll_mk0), vars_read2 enc gCnt tCnt Tryd.underlying31 (var?_below bel gCnt (World.block_lt_of_cell? W _ cC) hv2) trivial gErr tErr Tryd.underlying31 (var?_below bel gErr (World.block_lt_of_cell? W _ cL) hv1) trivial _, bel.frame _, fun h => by cases h⟩

theorem ReadPicture_said : Rows.FnExactReadPictureSaid :=
  OpenClaim.holds_of_wide 3 Tryd.f3 rfl rfl rfl rfl rfl rfl rfl ⟨rfl, rfl, rfl, rfl, rfl⟩ rfl rfl rfl rfl rfl (by kernel_rfl) Tryd.func3 (by kernel_rfl)
    (of_decide_eq_true (by kernel_rfl)) (by unfold Func.isWrapper; first | (rw [if_pos (by decide +kernel)]; kernel_rfl) | (rw [if_neg (by decide +kernel)]; exact ⟨rfl, rfl⟩))
    (fun os started H enc _ => lifted_ReadPicture os started H enc)

theorem ReadPicture_card : Rows.FnExactReadPictureCardSaid :=
  Claim7.holds_tied_plain_at .later [] [.handle, .sentinel, .sentinel, .sentinel] true _ true
    ReadPicture_said (fun _ h => by cases h) (by kernel_rfl) (fun _ h => by cases h) fnExactReadPicture_row_tie rfl ⟨rfl, rfl⟩ (by kernel_rfl) rfl
    (fun f fn hf hfn => by
      obtain rfl : f = 3 := Option.some.inj ((show Tryd.prog.funcNamed "loop.example/g01165/laws.FnExactReadPicture" = some 3 by kernel_rfl).symm.trans hf) |>.symm
      obtain rfl : fn = Tryd.f3 := (Option.some.inj (Tryd.func3.symm.trans hfn)).symm
      exact ⟨by kernel_rfl, fun j t ht => by
        rw [Tryd.params3] at ht
        have hm : t ∈ [9] := by simpa using Array.mem_of_getElem? ht
        have hall : ([9].all fun u => !Tryd.prog.wantsStandIn u) = true := by kernel_rfl
        exact (show Tryd.prog.wantsStandIn t = false by simpa using List.all_eq_true.1 hall t (by simpa using hm))⟩)
    (by kernel_rfl)
#print axioms ReadPicture_card
end Go.Proofs.YtmbkmkpclfgppaaDoor
