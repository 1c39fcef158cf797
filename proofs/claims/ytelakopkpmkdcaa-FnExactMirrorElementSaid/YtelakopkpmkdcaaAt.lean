/- Contracts of single functions, and plain lemmas, on which the exact laws of this seat rest; each holds under the conditions that it states. -/
import Derived.Test.YtelakopkpmkdcaaAs
import Derived.Test.YtelakopkpmkdcaaAr
import Derived.Test.YtelakopkpmkdcaaA5
namespace Go.Proofs.Ytelakopkpmkdcaa
set_option linter.unusedVariables false
set_option linter.unusedSimpArgs false
open Go.RowKit

noncomputable def miV (xs : List (Int × Int)) : List (Int × Int) := if elB xs = true then elL (miF xs) else []
theorem miV_len (xs : List (Int × Int)) : (miV xs).length ≤ 81 := by
  unfold miV
  split
  · exact elL_len _
  · simp

set_option maxHeartbeats 2000000 in
set_option maxRecDepth 100000 in
theorem impl_Mirror (v : Value) (xs : List (Int × Int)) (w : World) (hN : xs.length ≤ 1048576) (hwf : ∀ p ∈ xs, (Lit.int .i64 p.1).wf = true ∧ (Lit.int .i64 p.2).wf = true) (hv : SlS w v xs) :
    Calls Try.prog 21 #[.agg #[v]] w (SaysElB (miV xs) (elB xs) w) := by
  have HB0 := Lib.hid (Joins.below_alloc2 w (.cells #[v] 24) (.cells #[.slice none 0 0] 24))
  have hs0 : ((w.alloc (.cells #[v] 24)).alloc (.cells #[.slice none 0 0] 24)).heap.size = w.heap.size + 1 + 1 := by simp
  have hR0 := heap_alloc_last (w.alloc (.cells #[v] 24)) (.cells #[.slice none 0 0] 24)
  have hE0 : ((w.alloc (.cells #[v] 24)).alloc (.cells #[.slice none 0 0] 24)).heap[w.heap.size]? = some (.cells #[v] 24 (0, 0)) := by
    rw [Below.heap_alloc _ _ _ (by simp)]; exact heap_alloc_last w _
  rw [World.size_alloc] at hR0
  have HR0 := Lib.hid hR0
  have HE0 := Lib.hid hE0
  have HV : Hid (∀ W, Below w.heap.size w W → SlS W v xs) := fun W hb => hv.below hb
  have CV := Lib.hid (fun W (hb : Below w.heap.size w W) => impl_ValidElement v xs W hN hwf (hv.below hb))
  have CM := Lib.hid (fun W (hb : Below w.heap.size w W) => mirrored_any v xs W hN hwf (hv.below hb))
  have HMV : Hid (miV xs = if elB xs = true then elL (miF xs) else []) := rfl
  obtain ⟨ok, hok⟩ : ∃ ok, elB xs = ok := ⟨_, rfl⟩
  rw [hok] at CV HMV ⊢
  clear hR0 hE0 hv hwf hok
  go_enter Try.func21, Try.ntmps21
  go_wp2_with fail
  refine (CV.out _ HB0.out).mono ?_
  rintro e w2 ⟨rfl, hb2⟩
  have B2 := Lib.hid (HB0.out.trans (hb2.mono (by rw [hs0]; omega)))
  have R2 := Lib.hid ((hb2.block (w.heap.size + 1) (by rw [hs0]; omega)).trans HR0.out)
  have E2 := Lib.hid ((hb2.block w.heap.size (by rw [hs0]; omega)).trans HE0.out)
  clear hb2
  have hfr : w2.frozen? ⟨w.heap.size + 1, 0, none⟩ = false := free_of_one R2.out
  have hc2 : w2.cell? ⟨w.heap.size + 1, 0, none⟩ = some (.slice none 0 0) := cell_of_one R2.out
  have he2 : w2.cell? ⟨w.heap.size, 0, none⟩ = some v := cell_of_one E2.out
  have lE := (Array.getElem?_eq_some_iff.1 E2.out).1
  have lR := (Array.getElem?_eq_some_iff.1 R2.out).1
  cases ok with
  | false =>
    have HM0 : Hid (miV xs = []) := HMV.out
    go_wp2_with fail
    refine bodyPost_ret (v := .tuple #[.agg #[.slice none 0 0], .bool false]) (by simp [results, Try.results21, go_sem, cell_of_one (one_setCell (u := .slice none 0 0) R2.out), cell_of_one R2.out]) rfl ⟨none, 0, 0, rfl, by rw [HM0.out]; exact World.ownsRow_nil _ _ _ _, by first | exact B2.out | exact B2.out.setCell (p := ⟨w.heap.size + 1, 0, none⟩) (by simp) _⟩
  | true =>
    have HM0 : Hid (miV xs = elL (miF xs)) := HMV.out
    obtain ⟨E, hE⟩ : ∃ E, elL (miF xs) = E := ⟨_, rfl⟩
    rw [hE] at CM HM0
    clear hE
    go_wp2_with fail
    refine (CM.out _ B2.out).mono ?_
    rintro e w4 ⟨ao, n, cap, rfl, hown, hb4⟩
    have hp4 := (hb4.block (w.heap.size + 1) lR).trans R2.out
    have hfr4 : w4.frozen? ⟨w.heap.size + 1, 0, none⟩ = false := free_of_one hp4
    have hc4 : w4.cell? ⟨w.heap.size + 1, 0, none⟩ = some (.slice none 0 0) := cell_of_one hp4
    have O4 := Lib.hid (own_set (u := .slice ao n cap) hown hp4 (by decide))
    have P4 := Lib.hid (one_setCell (u := .slice ao n cap) hp4)
    have B4 := Lib.hid ((B2.out.trans (hb4.mono B2.out.size)).setCell (p := ⟨w.heap.size + 1, 0, none⟩) (by simp) (.slice ao n cap))
    have hsz := B2.out.size
    clear hown hp4 hb4
    go_wp2_with fail
    refine bodyPost_ret (v := .tuple #[.agg #[.slice ao n cap], .bool true]) (by simp [results, Try.results21, go_sem, cell_of_one P4.out]) rfl ⟨ao, n, cap, rfl, by rw [HM0.out]; exact Joins.ownsRow_le O4.out hsz, B4.out⟩

/-- those that have been put in are the opposites of the first k -/
def Opp (xs : List (Int × Int)) (k : Nat) (ys : List (Int × Int)) : Prop := Srt ys ∧ ys.length ≤ k ∧ ∀ q, q ∈ ys ↔ ∃ j, j < k ∧ q = (-(xs.getD j (0, 0)).1, -(xs.getD j (0, 0)).2)
theorem Opp.zero (xs : List (Int × Int)) : Opp xs 0 [] := ⟨List.Pairwise.nil, Nat.le_refl _, fun q => by simp⟩
theorem Opp.snoc {xs ys zs : List (Int × Int)} {k : Nat} (h : Opp xs k ys) (hs : Srt zs) (hl : zs.length ≤ ys.length + 1) (hm : ∀ q, q ∈ zs ↔ (q = (-(xs.getD k (0, 0)).1, -(xs.getD k (0, 0)).2) ∨ q ∈ ys)) : Opp xs (k + 1) zs := by
  refine ⟨hs, by have := h.2.1; omega, fun q => ?_⟩
  rw [hm q, h.2.2 q]
  constructor
  · rintro (e | ⟨j, hj, e⟩)
    · exact ⟨k, by omega, e⟩
    · exact ⟨j, by omega, e⟩
  · rintro ⟨j, hj, e⟩
    by_cases hjk : j = k
    · subst hjk; exact Or.inl e
    · exact Or.inr ⟨j, by omega, e⟩
theorem Opp.all {xs ys : List (Int × Int)} (h : Opp xs xs.length ys) (hok : elB xs = true) : ys = elL (miF xs) := by
  refine srt_eq h.1 (elL_srt _) fun q => ?_
  rw [h.2.2 q, elL_mem]
  have hr : ∀ j, j < xs.length → (-4 ≤ (xs.getD j (0, 0)).1 ∧ (xs.getD j (0, 0)).1 ≤ 4) ∧ (-4 ≤ (xs.getD j (0, 0)).2 ∧ (xs.getD j (0, 0)).2 ≤ 4) := fun j hj => by
    unfold elB at hok
    rw [Bool.and_eq_true] at hok
    have := List.all_eq_true.1 hok.1 j (List.mem_range.2 hj)
    unfold stepOk at this
    rw [Bool.and_eq_true] at this
    exact (okO_iff _).1 this.1
  constructor
  · rintro ⟨j, hj, rfl⟩
    have := hr j hj
    refine ⟨⟨by simp only; omega, by simp only; omega⟩, ?_⟩
    unfold miF memB
    simp only [Int.neg_neg]
    refine decide_eq_true ?_
    rw [getD_of_lt hj]
    exact List.getElem_mem hj
  · rintro ⟨_, hm⟩
    unfold miF memB at hm
    obtain ⟨j, hj, e⟩ := List.mem_iff_getElem.1 (of_decide_eq_true hm)
    refine ⟨j, hj, ?_⟩
    rw [getD_of_lt hj, e]
    simp
theorem ElSt.put {w W W' : World} {R B g n cap g' n' cap' : Nat} {L L' : List (Int × Int)} (h : ElSt w W R B (.slice (some ⟨g, 0, none⟩) n cap) L)
    (ho : OwnS W' w.heap.size (.slice (some ⟨g', 0, none⟩) n' cap') L') (hg : W.grownBy W' (some g)) :
    W'.heap[B]? = some (.cells #[.slice (some ⟨g, 0, none⟩) n cap] 24 (0, 0)) ∧ ElSt w (W'.setCell ⟨B, 0, none⟩ (.slice (some ⟨g', 0, none⟩) n' cap')) R B (.slice (some ⟨g', 0, none⟩) n' cap') L' := by
  have hb := var_far h.b h.own (by decide) hg
  have hr := var_far h.r h.own (by decide) hg
  have hbel : Below w.heap.size w W' := h.bel.grown hg h.bel.size (fun k hk => by cases hk; exact (h.own.lt g rfl).1)
  exact ⟨hb, ⟨(Below.heap_setCell _ _ _ _ (by exact h.ne)).trans hr, one_setCell hb, own_set ho hb (by decide), hbel.setCell h.geB _, h.geB, h.geR, h.ne⟩⟩
end Go.Proofs.Ytelakopkpmkdcaa
