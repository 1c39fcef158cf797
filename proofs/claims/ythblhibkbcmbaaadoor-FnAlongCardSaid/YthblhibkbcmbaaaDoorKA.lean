/- Contracts of single functions, and plain lemmas, on which the exact laws of this seat rest; each holds under the conditions that it states. -/
import Derived.Test.YthblhibkbcmbaaaDoorD1
import Derived.Test.YthblhibkbcmbaaaDoorQb
import Derived.Deep.QuietTactic
import Derived.BigQuiet
import Derived.Test.YthblhibkbcmbaaaDoorV5
import Derived.Test.YthblhibkbcmbaaaDoorK2
import Derived.Test.YthblhibkbcmbaaaDoorSc
namespace Go.Proofs.YthblhibkbcmbaaaDoor
set_option linter.unusedVariables false
set_option linter.unusedSimpArgs false
open Go.RowKit

/-! ### elements that are valid -/
def okO (p : Int × Int) : Bool := decide (-4 ≤ p.1) && decide (p.1 ≤ 4) && (decide (-4 ≤ p.2) && decide (p.2 ≤ 4))
def befB (a b : Int × Int) : Bool := decide (a.2 < b.2) || (decide (a.2 = b.2) && decide (a.1 < b.1))
def stepOk (xs : List (Int × Int)) (i : Nat) : Bool := okO (xs.getD i (0, 0)) && (decide (i = 0) || befB (xs.getD (i - 1) (0, 0)) (xs.getD i (0, 0)))
def elB (xs : List (Int × Int)) : Bool := (List.range xs.length).all (stepOk xs) && (decide (1 ≤ xs.length) && decide (xs.length ≤ 50))
theorem elB_bad {xs : List (Int × Int)} {i : Nat} (hi : i < xs.length) (h : stepOk xs i = false) : elB xs = false := by
  unfold elB
  rw [Bool.and_eq_false_iff]
  left
  rw [List.all_eq_false]
  exact ⟨i, List.mem_range.2 hi, by rw [h]; simp⟩
theorem elB_good {xs : List (Int × Int)} (h : ∀ i, i < xs.length → stepOk xs i = true) : elB xs = (decide (1 ≤ xs.length) && decide (xs.length ≤ 50)) := by
  unfold elB
  rw [show (List.range xs.length).all (stepOk xs) = true from List.all_eq_true.2 (fun i hi => h i (List.mem_range.1 hi)), Bool.true_and]

end Go.Proofs.YthblhibkbcmbaaaDoor

/- Contracts of single functions, and plain lemmas, on which the exact laws of this seat rest; each holds under the conditions that it states. -/
namespace Go.Proofs.YthblhibkbcmbaaaDoor
set_option linter.unusedVariables false
set_option linter.unusedSimpArgs false
open Go.RowKit

/-! ### valid elements are those that an element of their own offsets is -/
theorem bef_iff (a b : Int × Int) : befB a b = true ↔ (a.2 < b.2 ∨ (a.2 = b.2 ∧ a.1 < b.1)) := by simp [befB]
theorem bef_trans {a b c : Int × Int} (h : befB a b = true) (k : befB b c = true) : befB a c = true := by
  rw [bef_iff] at *; omega
theorem bef_irr (a : Int × Int) : ¬ befB a a = true := by rw [bef_iff]; omega
theorem bef_asym {a b : Int × Int} (h : befB a b = true) : ¬ befB b a = true := by rw [bef_iff] at *; omega
abbrev Srt (l : List (Int × Int)) : Prop := l.Pairwise (fun a b => befB a b = true)
theorem srt_eq : ∀ {l1 l2 : List (Int × Int)}, Srt l1 → Srt l2 → (∀ p, p ∈ l1 ↔ p ∈ l2) → l1 = l2
  | [], [], _, _, _ => rfl
  | [], b :: l2, _, _, h => absurd ((h b).2 (List.mem_cons_self ..)) (by simp)
  | a :: l1, [], _, _, h => absurd ((h a).1 (List.mem_cons_self ..)) (by simp)
  | a :: l1, b :: l2, h1, h2, h => by
    have k1 := List.pairwise_cons.1 h1
    have k2 := List.pairwise_cons.1 h2
    have e : a = b := by
      rcases List.mem_cons.1 ((h a).1 (List.mem_cons_self ..)) with e | e
      · exact e
      · rcases List.mem_cons.1 ((h b).2 (List.mem_cons_self ..)) with e' | e'
        · exact e'.symm
        · exact absurd (k2.1 a e) (bef_asym (k1.1 b e'))
    subst e
    congr 1
    refine srt_eq k1.2 k2.2 fun p => ⟨fun hp => ?_, fun hp => ?_⟩
    · rcases List.mem_cons.1 ((h p).1 (List.mem_cons_of_mem _ hp)) with e | e
      · subst e; exact absurd (k1.1 _ hp) (bef_irr _)
      · exact e
    · rcases List.mem_cons.1 ((h p).2 (List.mem_cons_of_mem _ hp)) with e | e
      · subst e; exact absurd (k2.1 _ hp) (bef_irr _)
      · exact e

set_option maxRecDepth 100000 in
theorem offL_srt : (offL 81).Pairwise (fun a b => befB a.1 b.1 = true) := by decide +kernel
theorem off_mem (x : Off) : x ∈ offL 81 := by
  obtain ⟨⟨a, b⟩, ⟨h1, h2⟩, h3, h4⟩ := x
  simp only at h1 h2 h3 h4
  unfold offL
  refine List.mem_map.2 ⟨((b + 4) * 9 + (a + 4)).toNat, List.mem_range.2 (by omega), ?_⟩
  apply Subtype.ext
  simp only [offAt]
  refine Prod.ext ?_ ?_
  · show ((((b + 4) * 9 + (a + 4)).toNat % 9 : Nat) : Int) - 4 = a
    omega
  · show ((((b + 4) * 9 + (a + 4)).toNat / 9 % 9 : Nat) : Int) - 4 = b
    omega
theorem elL_srt (f : Int → Int → Bool) : Srt (elL f) := by
  unfold elL selL Srt
  rw [List.pairwise_map]
  exact offL_srt.filter _
theorem elL_mem (f : Int → Int → Bool) (p : Int × Int) : p ∈ elL f ↔ (((-4 ≤ p.1 ∧ p.1 ≤ 4) ∧ (-4 ≤ p.2 ∧ p.2 ≤ 4)) ∧ f p.1 p.2 = true) := by
  unfold elL selL
  rw [List.mem_map]
  constructor
  · rintro ⟨x, hx, rfl⟩
    exact ⟨x.2, (List.mem_filter.1 hx).2⟩
  · rintro ⟨h, hf⟩
    exact ⟨⟨p, h⟩, List.mem_filter.2 ⟨off_mem _, hf⟩, rfl⟩
theorem okO_iff (p : Int × Int) : okO p = true ↔ ((-4 ≤ p.1 ∧ p.1 ≤ 4) ∧ (-4 ≤ p.2 ∧ p.2 ≤ 4)) := by simp [okO]

theorem getD_of_lt {xs : List (Int × Int)} {i : Nat} (h : i < xs.length) : xs.getD i (0, 0) = xs[i] := by
  rw [List.getD_eq_getElem?_getD, List.getElem?_eq_getElem h]; rfl
theorem srt_of_steps {xs : List (Int × Int)} (h : ∀ i, i < xs.length → stepOk xs i = true) : Srt xs := by
  have key : ∀ j, ∀ i, i < j → (hj : j < xs.length) → befB (xs.getD i (0, 0)) (xs.getD j (0, 0)) = true := by
    intro j
    induction j with
    | zero => intro i hi; omega
    | succ j ih =>
      intro i hi hj
      have hs := h (j + 1) hj
      unfold stepOk at hs
      simp at hs
      by_cases e : i = j
      · subst e; simpa using hs.2
      · exact bef_trans (ih i (by omega) (by omega)) (by simpa using hs.2)
  unfold Srt
  rw [List.pairwise_iff_getElem]
  intro i j hi hj hij
  have := key j i hij hj
  rwa [getD_of_lt hi, getD_of_lt hj] at this
theorem steps_of_srt {xs : List (Int × Int)} (h : Srt xs) (hr : ∀ p ∈ xs, okO p = true) : ∀ i, i < xs.length → stepOk xs i = true := by
  intro i hi
  unfold stepOk
  rw [getD_of_lt hi, hr _ (List.getElem_mem hi), Bool.true_and]
  by_cases e : i = 0
  · simp [e]
  · rw [getD_of_lt (show i - 1 < xs.length by omega)]
    unfold Srt at h
    rw [List.pairwise_iff_getElem] at h
    rw [h (i - 1) i (by omega) hi (by omega), Bool.or_true]

def memB (xs : List (Int × Int)) (x y : Int) : Bool := decide ((x, y) ∈ xs)
/-- how many different ones are among the first k -/
def dC (xs : List (Int × Int)) : Nat → Nat
  | 0 => 0
  | k + 1 => if xs.getD k (0, 0) ∈ xs.take k then dC xs k else dC xs k + 1
theorem dC_le (xs : List (Int × Int)) : ∀ k, dC xs k ≤ k
  | 0 => Nat.le_refl _
  | k + 1 => by have := dC_le xs k; simp only [dC]; split <;> omega
theorem dC_srt {xs : List (Int × Int)} (h : Srt xs) : ∀ k, k ≤ xs.length → dC xs k = k
  | 0, _ => rfl
  | k + 1, hk => by
    have ih := dC_srt h k (by omega)
    simp only [dC]
    rw [if_neg, ih]
    intro hm
    obtain ⟨j, hj, e⟩ := List.mem_take_iff_getElem.1 hm
    unfold Srt at h
    rw [List.pairwise_iff_getElem] at h
    have := h j k (by omega) (by omega) (by omega)
    rw [e, getD_of_lt (by omega)] at this
    exact bef_irr _ this

theorem el_self {xs : List (Int × Int)} (h : ∀ i, i < xs.length → stepOk xs i = true) : elL (memB xs) = xs := by
  refine srt_eq (elL_srt _) (srt_of_steps h) fun p => ?_
  rw [elL_mem]
  constructor
  · rintro ⟨_, h2⟩
    exact of_decide_eq_true h2
  · intro hp
    obtain ⟨i, hi, e⟩ := List.mem_iff_getElem.1 hp
    have hs := h i hi
    unfold stepOk at hs
    rw [getD_of_lt hi, Bool.and_eq_true] at hs
    rw [e] at hs
    exact ⟨(okO_iff p).1 hs.1, decide_eq_true hp⟩

/-- what ValidElement reckons -/
theorem valid_eq (xs : List (Int × Int)) : (decide ((elL (memB xs)).length = dC xs xs.length) && (decide (1 ≤ dC xs xs.length) && decide (dC xs xs.length ≤ 50)) && decide (elL (memB xs) = xs)) = elB xs := by
  by_cases h : ∀ i, i < xs.length → stepOk xs i = true
  · have e := el_self h
    rw [e, dC_srt (srt_of_steps h) _ (Nat.le_refl _), elB_good h]
    simp
  · obtain ⟨i, hi⟩ : ∃ i, ¬ (i < xs.length → stepOk xs i = true) := Classical.not_forall.1 h
    have hlt : i < xs.length := Classical.byContradiction fun k => hi (fun h' => absurd h' k)
    have hst : stepOk xs i = false := by
      cases e : stepOk xs i with
      | false => rfl
      | true => exact absurd (fun _ => e) hi
    rw [elB_bad hlt hst]
    have hne : elL (memB xs) ≠ xs := fun e => h (by
      have hs := elL_srt (memB xs)
      rw [e] at hs
      refine steps_of_srt hs fun p hp => ?_
      rw [← e] at hp
      exact (okO_iff p).2 ((elL_mem _ _).1 hp).1)
    rw [decide_eq_false hne, Bool.and_false]
end Go.Proofs.YthblhibkbcmbaaaDoor

/- Contracts of single functions, and plain lemmas, on which the exact laws of this seat rest; each holds under the conditions that it states. -/
namespace Go.Proofs.YthblhibkbcmbaaaDoor
set_option linter.unusedVariables false
set_option linter.unusedSimpArgs false
open Go.RowKit

theorem eqI_noE {a b : Int} (h : a ≠ b) : (a == b) = false := by simpa using h
theorem sl_form {w : World} {v : Value} {xs : List (Int × Int)} (h : SlS w v xs) : ∃ ao cap, v = .slice ao xs.length cap ∧ (0 < xs.length → ∃ b, ao = some ⟨b, 0, none⟩ ∧ Spots w b xs) := by
  rcases h with ⟨ao, cap, rfl, rfl⟩ | ⟨b, cap, rfl, _, h⟩
  · exact ⟨ao, cap, rfl, fun h => absurd h (by simp)⟩
  · exact ⟨_, cap, rfl, fun _ => ⟨b, rfl, h⟩⟩
theorem list_same {xs ys : List (Int × Int)} (hl : xs.length = ys.length) (h : ∀ j, j < xs.length → xs.getD j (0, 0) = ys.getD j (0, 0)) : xs = ys := by
  apply List.ext_getElem hl
  intro i h1 h2
  have := h i h1
  rwa [getD_of_lt h1, getD_of_lt h2] at this

end Go.Proofs.YthblhibkbcmbaaaDoor

/- Contracts of single functions, and plain lemmas, on which the exact laws of this seat rest; each holds under the conditions that it states. -/
namespace Go.Proofs.YthblhibkbcmbaaaDoor
set_option linter.unusedVariables false
set_option linter.unusedSimpArgs false
open Go.RowKit
attribute [local go_sem] Oper.semAt_some

theorem list_sameN {xs ys : List Int} (hl : xs.length = ys.length) (h : ∀ j, j < xs.length → xs.getD j 0 = ys.getD j 0) : xs = ys := by
  apply List.ext_getElem hl
  intro i h1 h2
  have := h i h1
  simpa [h1, h2] using this

set_option maxHeartbeats 2000000 in
set_option maxRecDepth 100000 in
theorem equalN_any (u v : Value) (xs ys : List Int) (w : World) (h1 : xs.length ≤ 1048576) (h2 : ys.length ≤ 1048576) (hu : SlN w u xs) (hv : SlN w v ys) :
    Calls Tryd.prog 50 #[u, v] w (SaysB (decide (xs = ys)) w) := by
  obtain ⟨ao1, cap1, rfl⟩ := hu.form
  obtain ⟨ao2, cap2, rfl⟩ := hv.form
  by_cases hl : xs.length = ys.length
  · have HSame := Lib.hid (@list_sameN xs ys hl)
    have HNo : Hid (∀ j, xs.getD j 0 ≠ ys.getD j 0 → decide (xs = ys) = false) := fun j h => decide_eq_false (fun e => h (by rw [e]))
    have HYes : Hid (xs = ys → decide (xs = ys) = true) := fun h => decide_eq_true h
    by_cases h0 : 0 < xs.length
    · rcases hu with ⟨_, _, _, e⟩ | ⟨b1, o1, c1, e1, _, l1, hc1⟩
      · rw [e] at h0
        simp at h0
      rcases hv with ⟨_, _, _, e⟩ | ⟨b2, o2, c2, e2, _, l2, hc2⟩
      · rw [hl, e] at h0
        simp at h0
      injection e1 with e1 _ _
      injection e2 with e2 _ _
      subst e1
      subst e2
      rw [← hl] at hc2 h2 ⊢
      obtain ⟨n, hn⟩ : ∃ n, xs.length = n := ⟨_, rfl⟩
      rw [hn] at HSame hc1 hc2 h1 ⊢
      have HC1 := Lib.hid hc1
      have HC2 := Lib.hid hc2
      obtain ⟨r, hr⟩ : ∃ r, decide (xs = ys) = r := ⟨_, rfl⟩
      rw [hr] at HNo HYes ⊢
      clear hc1 hc2 hr hn hl h2 h0
      go_enter Tryd.func50, Tryd.ntmps50
      go_wp2
      go_loopw [13] (fun iv wr => ∃ k : Nat, k ≤ n ∧ iv = .int .i64 k ∧ Hid (∀ j, j < k → xs.getD j 0 = ys.getD j 0) ∧ Hid (Below w.heap.size w wr)) (fun iv _ => n - (intOf iv).toNat)
      case atStart => exact ⟨0, Nat.zero_le _, rfl, fun j h => absurd h (Nat.not_lt_zero j), Below.refl _ _⟩
      case round =>
        obtain ⟨k, hk, rfl, HJ, HB⟩ := hrel
        have hs := HB.out.size
        by_cases hlt : k < n
        · have klt : (k : Int) < (n : Int) := by omega
          have kk0 : (0 : Int) ≤ (k : Int) := by omega
          have p0 := cell_kept HB.out (HC1.out k hlt)
          have q0 := cell_kept HB.out (HC2.out k hlt)
          have lb1 : b1 < wr.heap.size := by omega
          have lb2 : b2 < wr.heap.size := by omega
          have HNk := Lib.hid (HNo.out k)
          have HJs : Hid (xs.getD k 0 = ys.getD k 0 → ∀ j, j < k + 1 → xs.getD j 0 = ys.getD j 0) := fun h j hj => by
            by_cases e : j = k
            · rw [e]; exact h
            · exact HJ.out j (by omega)
          obtain ⟨x1, hP⟩ : ∃ P, xs.getD k 0 = P := ⟨_, rfl⟩
          obtain ⟨x2, hQ⟩ : ∃ Q, ys.getD k 0 = Q := ⟨_, rfl⟩
          rw [hP] at p0 HNk HJs
          rw [hQ] at q0 HNk HJs
          have HBd : ∀ m, Hid (Below w.heap.size w (wr.drewN m)) := fun m => HB.out.trans (Joins.below_draws w.heap.size _ _)
          clear hP hQ HB
          by_cases e1 : x1 = x2
          · subst e1
            have HN := Lib.hid (HJs.out rfl)
            clear HJs HNk
            go_wp2_with fail
            go_quiet (fail)
            go_wp2
            go_roundw
            case rel => exact ⟨k + 1, by omega, by go_num, HN.out, (HBd _).out⟩
            case measure => simp [intOf]; omega
          · have b1' := eqI_noE e1
            have HR := Lib.hid (HNk.out e1)
            clear HJs HNk e1
            go_wp2_with fail
            go_quiet (fail)
            go_wp2
            go_ret
            exact ⟨ret_bool HR.out.symm, (HBd _).out⟩
        · obtain rfl : k = n := by omega
          have HR := Lib.hid (HYes.out (HSame.out HJ.out))
          go_wp2
          go_ret
          exact ⟨ret_bool HR.out.symm, HB.out⟩
    · have hx : xs.length = 0 := by omega
      have hy : ys.length = 0 := by omega
      have HR := Lib.hid (HYes.out (HSame.out (fun j h => absurd h (by omega))))
      rw [hx, hy]
      clear HSame HYes hl HNo hu hv h0 h1 h2 hx hy
      go_enter Tryd.func50, Tryd.ntmps50
      go_wp2
      refine wp_loop_rounds 1 ?_; rw [rounds_succ]
      go_wp2
      go_ret
      exact ⟨ret_bool HR.out.symm, Below.refl _ _⟩
  · have HR : Hid (decide (xs = ys) = false) := decide_eq_false (fun e => hl (by rw [e]))
    have hb : ((xs.length : Int) != (ys.length : Int)) = true := bne_iff_ne.2 (by omega)
    clear hl hu hv
    go_enter Tryd.func50, Tryd.ntmps50
    go_wp2
    go_ret
    exact ⟨ret_bool HR.out.symm, Below.refl _ _⟩

set_option maxHeartbeats 2000000 in
set_option maxRecDepth 100000 in
theorem sameN_any (u v : Value) (xs ys : List Int) (w : World) (h1 : xs.length ≤ 1048576) (h2 : ys.length ≤ 1048576) (hu : SlN w u xs) (hv : SlN w v ys) :
    Calls Tryd.prog 46 #[u, v] w (SaysB (decide (xs = ys)) w) := by
  obtain ⟨ao1, cap1, rfl⟩ := hu.form
  obtain ⟨ao2, cap2, rfl⟩ := hv.form
  by_cases hl : xs.length = ys.length
  · have HSame := Lib.hid (@list_sameN xs ys hl)
    have HNo : Hid (∀ j, xs.getD j 0 ≠ ys.getD j 0 → decide (xs = ys) = false) := fun j h => decide_eq_false (fun e => h (by rw [e]))
    have HYes : Hid (xs = ys → decide (xs = ys) = true) := fun h => decide_eq_true h
    by_cases h0 : 0 < xs.length
    · rcases hu with ⟨_, _, _, e⟩ | ⟨b1, o1, c1, e1, _, l1, hc1⟩
      · rw [e] at h0
        simp at h0
      rcases hv with ⟨_, _, _, e⟩ | ⟨b2, o2, c2, e2, _, l2, hc2⟩
      · rw [hl, e] at h0
        simp at h0
      injection e1 with e1 _ _
      injection e2 with e2 _ _
      subst e1
      subst e2
      rw [← hl] at hc2 h2 ⊢
      obtain ⟨n, hn⟩ : ∃ n, xs.length = n := ⟨_, rfl⟩
      rw [hn] at HSame hc1 hc2 h1 ⊢
      have HC1 := Lib.hid hc1
      have HC2 := Lib.hid hc2
      obtain ⟨r, hr⟩ : ∃ r, decide (xs = ys) = r := ⟨_, rfl⟩
      rw [hr] at HNo HYes ⊢
      clear hc1 hc2 hr hn hl h2 h0
      go_enter Tryd.func46, Tryd.ntmps46
      go_wp2
      go_loopw [5] (fun iv wr => ∃ k : Nat, k ≤ n ∧ iv = .int .i64 k ∧ Hid (∀ j, j < k → xs.getD j 0 = ys.getD j 0) ∧ Hid (Below w.heap.size w wr)) (fun iv _ => n - (intOf iv).toNat)
      case atStart => exact ⟨0, Nat.zero_le _, rfl, fun j h => absurd h (Nat.not_lt_zero j), Below.refl _ _⟩
      case round =>
        obtain ⟨k, hk, rfl, HJ, HB⟩ := hrel
        have hs := HB.out.size
        by_cases hlt : k < n
        · have klt : (k : Int) < (n : Int) := by omega
          have kk0 : (0 : Int) ≤ (k : Int) := by omega
          have p0 := cell_kept HB.out (HC1.out k hlt)
          have q0 := cell_kept HB.out (HC2.out k hlt)
          have lb1 : b1 < wr.heap.size := by omega
          have lb2 : b2 < wr.heap.size := by omega
          have HNk := Lib.hid (HNo.out k)
          have HJs : Hid (xs.getD k 0 = ys.getD k 0 → ∀ j, j < k + 1 → xs.getD j 0 = ys.getD j 0) := fun h j hj => by
            by_cases e : j = k
            · rw [e]; exact h
            · exact HJ.out j (by omega)
          obtain ⟨x1, hP⟩ : ∃ P, xs.getD k 0 = P := ⟨_, rfl⟩
          obtain ⟨x2, hQ⟩ : ∃ Q, ys.getD k 0 = Q := ⟨_, rfl⟩
          rw [hP] at p0 HNk HJs
          rw [hQ] at q0 HNk HJs
          have HBd : ∀ m, Hid (Below w.heap.size w (wr.drewN m)) := fun m => HB.out.trans (Joins.below_draws w.heap.size _ _)
          clear hP hQ HB
          by_cases e1 : x1 = x2
          · subst e1
            have HN := Lib.hid (HJs.out rfl)
            clear HJs HNk
            go_wp2_with fail
            go_quiet (fail)
            go_wp2
            go_roundw
            case rel => exact ⟨k + 1, by omega, by go_num, HN.out, (HBd _).out⟩
            case measure => simp [intOf]; omega
          · have b1' := eqI_noE e1
            have HR := Lib.hid (HNk.out e1)
            clear HJs HNk e1
            go_wp2_with fail
            go_quiet (fail)
            go_wp2
            go_ret
            exact ⟨ret_bool HR.out.symm, (HBd _).out⟩
        · obtain rfl : k = n := by omega
          have HR := Lib.hid (HYes.out (HSame.out HJ.out))
          go_wp2
          go_ret
          exact ⟨ret_bool HR.out.symm, HB.out⟩
    · have hx : xs.length = 0 := by omega
      have hy : ys.length = 0 := by omega
      have HR := Lib.hid (HYes.out (HSame.out (fun j h => absurd h (by omega))))
      rw [hx, hy]
      clear HSame HYes hl HNo hu hv h0 h1 h2 hx hy
      go_enter Tryd.func46, Tryd.ntmps46
      go_wp2
      refine wp_loop_rounds 1 ?_; rw [rounds_succ]
      go_wp2
      go_ret
      exact ⟨ret_bool HR.out.symm, Below.refl _ _⟩
  · have HR : Hid (decide (xs = ys) = false) := decide_eq_false (fun e => hl (by rw [e]))
    have hb : ((xs.length : Int) != (ys.length : Int)) = true := bne_iff_ne.2 (by omega)
    clear hl hu hv
    go_enter Tryd.func46, Tryd.ntmps46
    go_wp2
    go_ret
    exact ⟨ret_bool HR.out.symm, Below.refl _ _⟩
end Go.Proofs.YthblhibkbcmbaaaDoor

/- Contracts of single functions, and plain lemmas, on which the exact laws of this seat rest; each holds under the conditions that it states. -/
namespace Go.Proofs.YthblhibkbcmbaaaDoor
set_option linter.unusedVariables false
set_option linter.unusedSimpArgs false
open Go.RowKit

/-! ### a picture painted along a curve -/
def sX (S : List (Int × Int)) (i : Nat) : Nat := (S.getD i (0, 0)).1.toNat
def sY (S : List (Int × Int)) (i : Nat) : Nat := (S.getD i (0, 0)).2.toNat
def updB (G : Nat → Nat → Bool) (y x : Nat) (b : Bool) (y' x' : Nat) : Bool := if y' = y ∧ x' = x then b else G y' x'
def ptG (S : List (Int × Int)) (b : Bool) (a : Nat) : Nat → (Nat → Nat → Bool) → (Nat → Nat → Bool)
  | 0, G => G
  | j + 1, G => updB (ptG S b a j G) (sY S (a + j)) (sX S (a + j)) b
def atK (rs : List Int) : Nat → Nat
  | 0 => 0
  | k + 1 => atK rs k + (rs.getD k 0).toNat
def gK (S : List (Int × Int)) (rs : List Int) : Nat → (Nat → Nat → Bool)
  | 0 => fun _ _ => false
  | k + 1 => ptG S (decide (k % 2 = 1)) (atK rs k) (rs.getD k 0).toNat (gK S rs k)
def okK (N : Nat) (rs : List Int) : Nat → Bool
  | 0 => true
  | k + 1 => okK N rs k && inB (rs.getD k 0) 0 ((N : Int) - (atK rs k : Int))
theorem okK_at {N : Nat} {rs : List Int} : ∀ {k : Nat}, okK N rs k = true → atK rs k ≤ N
  | 0, _ => Nat.zero_le _
  | k + 1, h => by
    unfold okK at h
    rw [Bool.and_eq_true] at h
    have ih := okK_at h.1
    have h2 := h.2
    simp only [inB, Bool.and_eq_true, decide_eq_true_eq] at h2
    unfold atK
    omega
theorem okK_le {N : Nat} {rs : List Int} : ∀ {k m : Nat}, k ≤ m → okK N rs m = true → okK N rs k = true
  | k, 0, h, hm => by
    obtain rfl : k = 0 := by omega
    exact hm
  | k, m + 1, h, hm => by
    by_cases e : k = m + 1
    · rw [e]; exact hm
    · unfold okK at hm
      rw [Bool.and_eq_true] at hm
      exact okK_le (by omega) hm.1
theorem okK_no {N : Nat} {rs : List Int} {k m : Nat} (h : k < m) (hb : inB (rs.getD k 0) 0 ((N : Int) - (atK rs k : Int)) = false) : okK N rs m = false := by
  cases hm : okK N rs m with
  | false => rfl
  | true =>
    have := okK_le (k := k + 1) (by omega) hm
    unfold okK at this
    rw [hb, Bool.and_false] at this
    cases this
def pfN (n : Int) : Nat := 2 ^ n.toNat * 2 ^ n.toNat
def pfG (c n : Int) (rs : List Int) : Nat → Nat → Bool := gK (cvF c.toNat n.toNat) rs rs.length
def pfOk (c n : Int) (rs : List Int) : Bool := (inB c 0 3 && inB n 0 4) && (okK (pfN n) rs rs.length && decide (rnL (alF c.toNat n.toNat (pfG c n rs)) (pfN n) = rs))
def pfV (c n : Int) (rs : List Int) : List ByteArray := if pfOk c n rs = true then mkPic (2 ^ n.toNat) (2 ^ n.toNat) (pfG c n rs) else []
theorem pf_len {c n : Int} {rs : List Int} (h : pfOk c n rs = true) : rs.length ≤ 257 := by
  unfold pfOk at h
  simp only [Bool.and_eq_true, decide_eq_true_eq] at h
  obtain ⟨⟨_, hn⟩, _, he⟩ := h
  have h1 := (rnL_len (alF c.toNat n.toNat (pfG c n rs)) (pfN n)).2
  rw [he] at h1
  have hn4 : n.toNat ≤ 4 := by simp [inB] at hn; omega
  have h2 : pfN n ≤ 256 := Nat.mul_le_mul (pow_le16 hn4) (pow_le16 hn4)
  omega
/-- a pixel set in the list of a picture -/
theorem listF_set (G : Nat → Nat → Bool) (wd N y x : Nat) (b : Bool) (hx : x < wd) :
    (boolV (listF G wd N)).set (y * wd + x) (.bool b) = boolV (listF (updB G y x b) wd N) := by
  have h1 : (y * wd + x) / wd = y := by rw [Nat.mul_comm, Nat.mul_add_div (by omega), Nat.div_eq_of_lt hx, Nat.add_zero]
  have h2 : (y * wd + x) % wd = x := by rw [Nat.mul_comm, Nat.mul_add_mod, Nat.mod_eq_of_lt hx]
  apply List.ext_getElem?
  intro j
  unfold boolV listF
  rw [List.map_map, List.map_map]
  by_cases hj : j < N
  · rw [List.getElem?_set]
    by_cases e : y * wd + x = j
    · subst e
      simp [hj, updB, h1, h2]
    · rw [if_neg e]
      have hn : ¬ (j / wd = y ∧ j % wd = x) := fun ⟨a, c⟩ => e (by
        have := Nat.div_add_mod j wd
        rw [a, c, Nat.mul_comm] at this
        exact this)
      simp [hj, updB, hn]
  · rw [List.getElem?_eq_none (by simp; omega), List.getElem?_eq_none (by simp; omega)]
theorem listF_false (wd N : Nat) : boolV (listF (fun _ _ => false) wd N) = List.replicate N (.bool false) := by
  unfold boolV listF
  rw [List.map_map]
  apply List.ext_getElem?
  intro i
  by_cases hi : i < N <;> simp [hi]
theorem tmod_cases (k : Nat) : ∃ r : Int, ∃ b : Bool, Int.tmod (k : Int) 2 = r ∧ (r == 1) = b ∧ b = decide (k % 2 = 1) := by
  have h : Int.tmod (k : Int) 2 = ((k % 2 : Nat) : Int) := by rw [Int.tmod_eq_emod_of_nonneg (by omega)]; omega
  rcases Nat.mod_two_eq_zero_or_one k with e | e
  · exact ⟨0, false, by rw [h, e]; rfl, rfl, by rw [e]; rfl⟩
  · exact ⟨1, true, by rw [h, e]; rfl, rfl, by rw [e]; rfl⟩
end Go.Proofs.YthblhibkbcmbaaaDoor
