/- Contracts of single functions, and plain lemmas, on which the exact laws of this seat rest; each holds under the conditions that it states. -/
import Derived.Test.YtnmnlbgialolhaaDoorProg
import Derived.WalkKit
import Derived.NoCompiler
import Derived.RowKit
import Derived.OrdersIn
namespace Go.Proofs.YtnmnlbgialolhaaDoor
set_option linter.unusedVariables false
set_option linter.unusedSimpArgs false

/-! ### a region that draws its order, by what holds when some of its operations are done -/
def leftN (ops : Array Oper) (L : Array Bool) : Nat := ((List.range ops.size).filter fun i => !L.getD i true).length
theorem ready_left {md : Region.Mode} {ops : Array Oper} {L : Array Bool} {i : Nat} (h : i ∈ Region.ready md ops L) : i < ops.size ∧ L.getD i true = false := by
  unfold Region.ready at h
  rw [List.mem_filter, List.mem_range, Bool.and_eq_true] at h
  refine ⟨h.1, ?_⟩
  have := h.2.1
  cases hb : L.getD i true
  · rfl
  · rw [hb] at this; cases this
theorem filter_lt {α : Type} {f g : α → Bool} : ∀ {l : List α}, (∀ x ∈ l, f x = true → g x = true) → (∃ x ∈ l, g x = true ∧ f x = false) → (l.filter f).length < (l.filter g).length
  | [], _, h => by obtain ⟨x, hx, _⟩ := h; cases hx
  | y :: l, hs, h => by
    have hle : ∀ l : List α, (∀ x ∈ l, f x = true → g x = true) → (l.filter f).length ≤ (l.filter g).length := by
      intro l
      induction l with
      | nil => intro _; exact Nat.le_refl _
      | cons z l ih =>
        intro hz
        have h1 := ih (fun x hx => hz x (by simp [hx]))
        have h2 := hz z (by simp)
        rw [List.filter_cons, List.filter_cons]
        cases hf : f z with
        | true => rw [if_pos rfl, h2 hf, if_pos rfl, List.length_cons, List.length_cons]; omega
        | false =>
          rw [if_neg (by decide)]
          split
          · rw [List.length_cons]; omega
          · exact h1
    have hs' : ∀ x ∈ l, f x = true → g x = true := fun x hx => hs x (by simp [hx])
    obtain ⟨x, hx, hg, hf⟩ := h
    rw [List.filter_cons, List.filter_cons]
    rcases List.mem_cons.1 hx with rfl | hx
    · rw [hf, hg, if_neg (by decide), if_pos rfl, List.length_cons]
      have := hle l hs'
      omega
    · have ih := filter_lt hs' ⟨x, hx, hg, hf⟩
      have h2 := hs y (by simp)
      cases hf : f y with
      | true => rw [if_pos rfl, h2 hf, if_pos rfl, List.length_cons, List.length_cons]; omega
      | false =>
        rw [if_neg (by decide)]
        split
        · rw [List.length_cons]; omega
        · exact ih
theorem getD_set (L : Array Bool) (i j : Nat) : (L.setIfInBounds i true).getD j true = if j = i then true else L.getD j true := by
  simp only [Array.getD_eq_getD_getElem?, Array.getElem?_setIfInBounds]
  by_cases h : i = j
  · subst h
    rw [if_pos rfl, if_pos rfl]
    split
    · rfl
    · rename_i h; rfl
  · rw [if_neg h, if_neg (fun e => h e.symm)]
theorem left_set {ops : Array Oper} {L : Array Bool} {i : Nat} (h1 : i < ops.size) (h2 : L.getD i true = false) : leftN ops (L.setIfInBounds i true) < leftN ops L := by
  unfold leftN
  refine filter_lt (fun x hx hf => ?_) ⟨i, List.mem_range.2 h1, by rw [h2]; rfl, by rw [getD_set, if_pos rfl]; rfl⟩
  rw [getD_set] at hf
  split at hf
  · cases hf
  · exact hf
theorem wpAny_inv {P : Program} {ops : Array Oper} {Q : Exit → Act → World → Prop} {md : Region.Mode} (Inv : Array Bool → Act → World → Prop)
    (hs : ∀ L a w, Inv L a w → ∀ i ∈ Region.ready md ops L, wpOp P ops Q i (Inv (L.setIfInBounds i true)) a w)
    (hd : ∀ L a w, Inv L a w → Region.ready md ops L = [] → Q .normal a w) :
    ∀ fuel L a w, leftN ops L ≤ fuel → Inv L a w → wpAny P md ops Q fuel L a w
  | 0, L, a, w, hl, hI => by
    have hr : Region.ready md ops L = [] := by
      cases hr : Region.ready md ops L with
      | nil => rfl
      | cons i r =>
        have h := ready_left (md := md) (ops := ops) (L := L) (i := i) (by rw [hr]; simp)
        have := left_set h.1 h.2
        omega
    exact ⟨hr, hd L a w hI hr⟩
  | fuel + 1, L, a, w, hl, hI => ⟨hd L a w hI, fun i hi => by
      have h := ready_left hi
      have := left_set h.1 h.2
      exact wpOp_mono (fun a w hI' => wpAny_inv Inv hs hd fuel _ a w (by omega) hI') (hs L a w hI i hi)⟩
theorem wp_region_inv {P : Program} {ops : Array Oper} {Q : Exit → Act → World → Prop} {id : Nat} {a : Act} {w : World} (hm : P.follows .mixedOrders = true) (Inv : Array Bool → Act → World → Prop)
    (h0 : Inv (Array.replicate ops.size false) a w.drew)
    (hs : ∀ L a w, Inv L a w → ∀ i ∈ Region.ready .any ops L, ∀ o, ops[i]? = some o → ∀ K' : Act → World → Prop, (∀ a w, Inv (L.setIfInBounds i true) a w → K' a w) → if Region.wanted o (yielded ops a.tmps) = true then Oper.wp P o a w K' Q else K' (a.put o.dst undef) w)
    (hd : ∀ L a w, Inv L a w → Region.ready .any ops L = [] → Q .normal a w) : (Code.region id ops true).wp P Q a w := by
  refine wp_region_any hm (wpAny_inv Inv (fun L a w hI i hi => ?_) hd _ _ _ _ ?_ h0)
  · have hlt := (ready_left hi).1
    have ho : ops[i]? = some ops[i] := Array.getElem?_eq_getElem hlt
    exact wpOp_step ho (hs L a w hI i hi _ ho)
  · unfold leftN
    refine Nat.le_trans (List.length_filter_le _ _) ?_
    simp
/-- what an operation that may come up asks is done -/
theorem ready_after {md : Region.Mode} {ops : Array Oper} {L : Array Bool} {i : Nat} {o : Oper} (h : i ∈ Region.ready md ops L) (ho : ops[i]? = some o) :
    (o.after.all fun e => !Region.binds md e || L.getD e.on false) = true := by
  unfold Region.ready at h
  rw [List.mem_filter, Bool.and_eq_true] at h
  have := h.2.2
  rw [ho] at this
  exact this
/-- where nothing may come up any more, what could come up is done -/
theorem ready_done {md : Region.Mode} {ops : Array Oper} {L : Array Bool} (hr : Region.ready md ops L = []) (i : Nat) (o : Oper) (ho : ops[i]? = some o)
    (hd : (o.after.all fun e => !Region.binds md e || L.getD e.on false) = true) : L.getD i true = true := by
  cases hb : L.getD i true with
  | true => rfl
  | false =>
    have hm : i ∈ Region.ready md ops L := by
      unfold Region.ready
      rw [List.mem_filter, List.mem_range, Bool.and_eq_true]
      refine ⟨(Array.getElem?_eq_some_iff.1 ho).1, by rw [hb]; rfl, ?_⟩
      rw [ho]
      exact hd
    rw [hr] at hm
    cases hm
theorem set_self (xs : Array Value) (t : Nat) : xs.setIfInBounds t (xs.getD t undef) = xs := by
  apply Array.ext_getElem?
  intro i
  rw [Array.getElem?_setIfInBounds, Array.getD_eq_getD_getElem?]
  by_cases h : t = i
  · subst h
    rw [if_pos rfl]
    split
    · rename_i hl; rw [Array.getElem?_eq_getElem hl]; rfl
    · rename_i hl; rw [Array.getElem?_eq_none (by omega)]
  · rw [if_neg h]
theorem put_self (a : Act) (t : Tmp) : a.put (some t) (a.tmps.getD t undef) = a := by
  cases a
  show Act.mk _ _ = Act.mk _ _
  rw [set_self]
/-- the same, the first frame handed on -/
theorem wp_region_inv_at {P : Program} {ops : Array Oper} {Q : Exit → Act → World → Prop} {id : Nat} {a : Act} {w : World} (hm : P.follows .mixedOrders = true) (Inv : Act → Array Bool → Act → World → Prop)
    (h0 : ∀ A0, Inv A0 (Array.replicate ops.size false) A0 w.drew)
    (hs : ∀ L A W, Inv a L A W → ∀ i ∈ Region.ready .any ops L, ∀ o, ops[i]? = some o → ∀ K' : Act → World → Prop, (∀ A W, Inv a (L.setIfInBounds i true) A W → K' A W) → if Region.wanted o (yielded ops A.tmps) = true then Oper.wp P o A W K' Q else K' (A.put o.dst undef) W)
    (hd : ∀ L A W, Inv a L A W → Region.ready .any ops L = [] → Q .normal A W) : (Code.region id ops true).wp P Q a w :=
  wp_region_inv hm (Inv a) (h0 a) hs hd
end Go.Proofs.YtnmnlbgialolhaaDoor

/- Contracts of single functions, and plain lemmas, on which the exact laws of this seat rest; each holds under the conditions that it states. -/
namespace Go.Proofs.YtnmnlbgialolhaaDoor
set_option linter.unusedVariables false
set_option linter.unusedSimpArgs false

/-! ### inside a fence: a region that draws its order, by what holds when some of its operations are done -/
theorem wpAnyIn_inv {F : Fence} {n : Nat} {P : Program} {ops : Array Oper} {Q : Exit → Act → World → Prop} {md : Region.Mode} (Inv : Array Bool → Act → World → Prop)
    (hs : ∀ L a w, Inv L a w → ∀ i ∈ Region.ready md ops L, wpOpIn F n P ops Q i (Inv (L.setIfInBounds i true)) a w)
    (hd : ∀ L a w, Inv L a w → Region.ready md ops L = [] → Q .normal a w) :
    ∀ fuel L a w, leftN ops L ≤ fuel → Inv L a w → wpAnyIn F n P md ops Q fuel L a w
  | 0, L, a, w, hl, hI => by
    have hr : Region.ready md ops L = [] := by
      cases hr : Region.ready md ops L with
      | nil => rfl
      | cons i r =>
        have h := ready_left (md := md) (ops := ops) (L := L) (i := i) (by rw [hr]; simp)
        have := left_set h.1 h.2
        omega
    exact ⟨hr, hd L a w hI hr⟩
  | fuel + 1, L, a, w, hl, hI => ⟨hd L a w hI, fun i hi => by
      have h := ready_left hi
      have := left_set h.1 h.2
      exact wpOpIn_mono (fun a w hI' => wpAnyIn_inv Inv hs hd fuel _ a w (by omega) hI') (hs L a w hI i hi)⟩
/-- every operation is wanted (none is guarded) -/
theorem wpIn_region_inv_at {F : Fence} {n : Nat} {P : Program} {ops : Array Oper} {Q : Exit → Act → World → Prop} {id : Nat} {a : Act} {w : World} (hm : P.follows .mixedOrders = true) (hw : ∀ o ∈ ops.toList, o.guard = none) (Inv : Act → Array Bool → Act → World → Prop)
    (h0 : ∀ A0, Inv A0 (Array.replicate ops.size false) A0 w.drew)
    (hs : ∀ L A W, Inv a L A W → ∀ i ∈ Region.ready .any ops L, ∀ o, ops[i]? = some o → ∀ K' : Act → World → Prop, (∀ A W, Inv a (L.setIfInBounds i true) A W → K' A W) → Oper.wpIn F n P o A W K' Q)
    (hd : ∀ L A W, Inv a L A W → Region.ready .any ops L = [] → Q .normal A W) : (Code.region id ops true).wpIn F n P Q a w := by
  refine wpIn_region_any hm (wpAnyIn_inv (Inv a) (fun L A W hI i hi => ?_) hd _ _ _ _ ?_ (h0 a))
  · have hlt := (ready_left hi).1
    have ho : ops[i]? = some ops[i] := Array.getElem?_eq_getElem hlt
    refine wpOpIn_step ho fun K' hK => ?_
    have hg : (ops[i]).guard = none := hw _ (by simp)
    rw [if_pos (by simp [Region.wanted, hg])]
    exact hs L A W hI i hi _ ho K' hK
  · unfold leftN
    refine Nat.le_trans (List.length_filter_le _ _) ?_
    simp
end Go.Proofs.YtnmnlbgialolhaaDoor
