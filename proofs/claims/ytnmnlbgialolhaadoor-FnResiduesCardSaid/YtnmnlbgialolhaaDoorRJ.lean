/- Contracts of single functions, and plain lemmas, on which the exact laws of this seat rest; each holds under the conditions that it states. -/
import Derived.Test.YtnmnlbgialolhaaDoorRI
import Derived.OrdersIn
namespace Go.Proofs.YtnmnlbgialolhaaDoor
set_option linter.unusedVariables false
set_option linter.unusedSimpArgs false

/-! ### inside a fence: a region that draws its order, by what holds when some of its operations are done -/
theorem wpAnyIn_inv {F : Fence} {n : Nat} {P : Program} {ops : Array Oper} {Q : Exit → Act → World → Prop} {md : Region.Mode} (Inv : Array Bool → Act → World → Prop)
    (hs : ∀ L a w, Inv L a w → ∀ i ∈ Region.ready md ops L, wpOpIn F n P ops Q i (Inv (L.setIfInBounds i true)) a w)
    (hd : ∀ L a w, Inv L a w → Region.ready md ops L = [] → Q .normal a w) :
    ∀ fuel L a w, leftN ops L ≤ fuel → Inv L a w → wpAnyIn F n P md ops Q fuel L a w
  | 0, L, a, w, hl, hI => by
    have hr : Region.ready md ops L = [] := by
      cases hr : Region.ready md ops L with
      | nil => rfl
      | cons i r =>
        have h := ready_left (md := md) (ops := ops) (L := L) (i := i) (by rw [hr]; simp)
        have := left_set h.1 h.2
        omega
    exact ⟨hr, hd L a w hI hr⟩
  | fuel + 1, L, a, w, hl, hI => ⟨hd L a w hI, fun i hi => by
      have h := ready_left hi
      have := left_set h.1 h.2
      exact wpOpIn_mono (fun a w hI' => wpAnyIn_inv Inv hs hd fuel _ a w (by omega) hI') (hs L a w hI i hi)⟩
/-- every operation is wanted (none is guarded) -/
theorem wpIn_region_inv_at {F : Fence} {n : Nat} {P : Program} {ops : Array Oper} {Q : Exit → Act → World → Prop} {id : Nat} {a : Act} {w : World} (hm : P.follows .mixedOrders = true) (hw : ∀ o ∈ ops.toList, o.guard = none) (Inv : Act → Array Bool → Act → World → Prop)
    (h0 : ∀ A0, Inv A0 (Array.replicate ops.size false) A0 w.drew)
    (hs : ∀ L A W, Inv a L A W → ∀ i ∈ Region.ready .any ops L, ∀ o, ops[i]? = some o → ∀ K' : Act → World → Prop, (∀ A W, Inv a (L.setIfInBounds i true) A W → K' A W) → Oper.wpIn F n P o A W K' Q)
    (hd : ∀ L A W, Inv a L A W → Region.ready .any ops L = [] → Q .normal A W) : (Code.region id ops true).wpIn F n P Q a w := by
  refine wpIn_region_any hm (wpAnyIn_inv (Inv a) (fun L A W hI i hi => ?_) hd _ _ _ _ ?_ (h0 a))
  · have hlt := (ready_left hi).1
    have ho : ops[i]? = some ops[i] := Array.getElem?_eq_getElem hlt
    refine wpOpIn_step ho fun K' hK => ?_
    have hg : (ops[i]).guard = none := hw _ (by simp)
    rw [if_pos (by simp [Region.wanted, hg])]
    exact hs L A W hI i hi _ ho K' hK
  · unfold leftN
    refine Nat.le_trans (List.length_filter_le _ _) ?_
    simp
end Go.Proofs.YtnmnlbgialolhaaDoor
