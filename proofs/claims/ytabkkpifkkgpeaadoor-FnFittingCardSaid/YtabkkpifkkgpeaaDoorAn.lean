/- Contracts of single functions, and plain lemmas, on which the exact laws of this seat rest; each holds under the conditions that it states. -/
import Derived.Test.YtabkkpifkkgpeaaDoorAh
import Derived.Test.YtabkkpifkkgpeaaDoorAi
import Derived.Deep.QuietTactic
import Derived.BigQuiet
namespace Go.Proofs.YtabkkpifkkgpeaaDoor
set_option linter.unusedVariables false
set_option linter.unusedSimpArgs false
open Go.RowKit

theorem okO_eq (x y : Int) : okO (x, y) = (inB x (-4) 4 && inB y (-4) 4) := by simp [okO, inB]

end Go.Proofs.YtabkkpifkkgpeaaDoor

/- Contracts of single functions, and plain lemmas, on which the exact laws of this seat rest; each holds under the conditions that it states. -/
namespace Go.Proofs.YtabkkpifkkgpeaaDoor
set_option linter.unusedVariables false
set_option linter.unusedSimpArgs false
open Go.RowKit Go.Maps

set_option maxHeartbeats 2000000 in
set_option maxRecDepth 100000 in
theorem element_yes (b m N : Nat) (xs : List (Int × Int)) (w : World) (hs : SetS w b m N xs) (h1 : (elL (memB xs)).length = N) (h2 : 1 ≤ N) (h3 : N ≤ 50) :
    Calls Tryd.prog 88 #[.map (some b)] w (SaysElB (elL (memB xs)) true w) := by
  have hR := Lib.hid (heap_alloc_last w (.cells #[.slice none 0 0] 46))
  have HB0 := Lib.hid (Joins.below_alloc1 w (.cells #[.slice none 0 0] 46))
  have HS0 := Lib.hid (hs.below HB0.out)
  have C := Lib.hid (elementOf_Has b (memB xs) (w.alloc (.cells #[.slice none 0 0] 46)) (fun x W hb => hasS_any b m N xs _ _ W (HS0.out.below hb) (wfE (by have := x.2; omega) (by have := x.2; omega)) (wfE (by have := x.2; omega) (by have := x.2; omega))))
  obtain ⟨E, hE⟩ : ∃ E, elL (memB xs) = E := ⟨_, rfl⟩
  rw [hE] at C h1 ⊢
  clear hE hs
  subst h1
  have hs0 : (w.alloc (.cells #[.slice none 0 0] 46)).heap.size = w.heap.size + 1 := by simp
  go_enter Tryd.func88, Tryd.ntmps88
  go_wp2_with fail
  refine C.out.mono ?_
  rintro e w2 ⟨ao, n, cap, rfl, hown, hb⟩
  have HR2 := Lib.hid ((hb.block w.heap.size (by rw [hs0]; omega)).trans hR.out)
  have B2 := Lib.hid (HB0.out.trans (hb.mono (by rw [hs0]; omega)))
  have S2 := Lib.hid (HS0.out.below hb)
  have O2 := Lib.hid hown
  have hs2 := B2.out.size
  have hlr := (Array.getElem?_eq_some_iff.1 HR2.out).1
  obtain ⟨hn, _⟩ : n = E.length ∧ True := by
    rcases Joins.ownsRow_forms hown with ⟨h, h0⟩ | ⟨g, c', h⟩
    · cases h; exact ⟨h0.symm, trivial⟩
    · cases h; exact ⟨rfl, trivial⟩
  subst hn
  have S3 := Lib.hid (S2.out.below (Joins.below_alloc1 w2 (.cells #[.slice ao E.length cap] 46)))
  have hlen := fun ty => S3.out.len Tryd.underlying123 ty
  obtain ⟨N, hN⟩ : ∃ N, E.length = N := ⟨_, rfl⟩
  rw [hN] at hlen h2 h3 ⊢
  have kN : (1 : Int) ≤ (N : Int) := by omega
  have kN2 : (N : Int) ≤ 50 := by omega
  have d1 : decide ((N : Int) < 1) = false := decide_eq_false (by omega)
  have d2 : decide ((50 : Int) < (N : Int)) = false := decide_eq_false (by omega)
  have fR : w2.frozen? ⟨w.heap.size, 0, none⟩ = false := free_of_one HR2.out
  have cR : w2.cell? ⟨w.heap.size, 0, none⟩ = some (.slice none 0 0) := cell_of_one HR2.out
  have hss : (w2.setCell ⟨w.heap.size, 0, none⟩ (.slice ao N cap)).heap.size = w2.heap.size := by simp [World.setCell]
  have HR4 : Hid (((w2.setCell ⟨w.heap.size, 0, none⟩ (.slice ao N cap)).alloc (.cells #[.slice ao N cap] 46)).heap[w.heap.size]? = some (.cells #[.slice ao N cap] 46 (0, 0))) := by
    show _ = _
    rw [Below.heap_alloc _ _ _ (by rw [hss]; exact hlr)]
    exact one_setCell HR2.out
  have O3 : Hid (OwnS ((w2.setCell ⟨w.heap.size, 0, none⟩ (.slice ao N cap)).alloc (.cells #[.slice ao N cap] 46)) w.heap.size (.slice ao N cap) E) := by
    have := Joins.ownsRow_le O2.out (show w.heap.size ≤ (w.alloc (.cells #[.slice none 0 0] 46)).heap.size by rw [hs0]; omega)
    rw [hN] at this
    have h4 := World.ownsRow.alloc (own_set (u := .slice ao N cap) this HR2.out (by decide)) (.cells #[.slice ao N cap] 46)
    unfold OwnS
    rw [hN]
    exact h4
  have B3 := Lib.hid ((B2.out.setCell (p := ⟨w.heap.size, 0, none⟩) (Nat.le_refl _) (.slice ao N cap)).alloc (by rw [hss]; exact hs2) (.cells #[.slice ao N cap] 46))
  clear hown hb kN kN2 h2 h3 hN hss
  go_wp2
  exact bodyPost_ret (v := .tuple #[.agg #[.slice ao N cap], .bool true]) (by simp [results, Tryd.results88, go_sem, cell_of_one HR4.out]) rfl ⟨ao, N, cap, rfl, O3.out, B3.out⟩
end Go.Proofs.YtabkkpifkkgpeaaDoor

/- Contracts of single functions, and plain lemmas, on which the exact laws of this seat rest; each holds under the conditions that it states. -/
namespace Go.Proofs.YtabkkpifkkgpeaaDoor
set_option linter.unusedVariables false
set_option linter.unusedSimpArgs false
open Go.RowKit Go.Maps

set_option maxHeartbeats 2000000 in
set_option maxRecDepth 100000 in
theorem element_no (b m N : Nat) (xs : List (Int × Int)) (w : World) (hs : SetS w b m N xs) (h : ¬ ((elL (memB xs)).length = N ∧ 1 ≤ N ∧ N ≤ 50)) :
    Calls Tryd.prog 88 #[.map (some b)] w (SaysElB [] false w) := by
  have hR := Lib.hid (heap_alloc_last w (.cells #[.slice none 0 0] 46))
  have HB0 := Lib.hid (Joins.below_alloc1 w (.cells #[.slice none 0 0] 46))
  have HS0 := Lib.hid (hs.below HB0.out)
  have C := Lib.hid (elementOf_Has b (memB xs) (w.alloc (.cells #[.slice none 0 0] 46)) (fun x W hb => hasS_any b m N xs _ _ W (HS0.out.below hb) (wfE (by have := x.2; omega) (by have := x.2; omega)) (wfE (by have := x.2; omega) (by have := x.2; omega))))
  obtain ⟨E, hE⟩ : ∃ E, elL (memB xs) = E := ⟨_, rfl⟩
  rw [hE] at C h
  clear hE hs
  have hs0 : (w.alloc (.cells #[.slice none 0 0] 46)).heap.size = w.heap.size + 1 := by simp
  go_enter Tryd.func88, Tryd.ntmps88
  go_wp2_with fail
  refine C.out.mono ?_
  rintro e w2 ⟨ao, n, cap, rfl, hown, hb⟩
  have HR2 := Lib.hid ((hb.block w.heap.size (by rw [hs0]; omega)).trans hR.out)
  have B2 := Lib.hid (HB0.out.trans (hb.mono (by rw [hs0]; omega)))
  have S2 := Lib.hid (HS0.out.below hb)
  have O2 := Lib.hid hown
  have hs2 := B2.out.size
  have hlr := (Array.getElem?_eq_some_iff.1 HR2.out).1
  obtain ⟨hn, _⟩ : n = E.length ∧ True := by
    rcases Joins.ownsRow_forms hown with ⟨h, h0⟩ | ⟨g, c', h⟩
    · cases h; exact ⟨h0.symm, trivial⟩
    · cases h; exact ⟨rfl, trivial⟩
  subst hn
  have S3 := Lib.hid (S2.out.below (Joins.below_alloc1 w2 (.cells #[.slice ao E.length cap] 46)))
  have hlen := fun ty => S3.out.len Tryd.underlying123 ty
  have fR : w2.frozen? ⟨w.heap.size, 0, none⟩ = false := free_of_one HR2.out
  have cR : w2.cell? ⟨w.heap.size, 0, none⟩ = some (.slice none 0 0) := cell_of_one HR2.out
  have hss : (w2.setCell ⟨w.heap.size, 0, none⟩ (.slice none 0 0)).heap.size = w2.heap.size := by simp [World.setCell]
  have HR4 : Hid (((w2.setCell ⟨w.heap.size, 0, none⟩ (.slice none 0 0)).alloc (.cells #[.slice ao E.length cap] 46)).heap[w.heap.size]? = some (.cells #[.slice none 0 0] 46 (0, 0))) := by
    show _ = _
    rw [Below.heap_alloc _ _ _ (by rw [hss]; exact hlr)]; exact one_setCell HR2.out
  have B3 := Lib.hid ((B2.out.setCell (p := ⟨w.heap.size, 0, none⟩) (Nat.le_refl _) (.slice none 0 0)).alloc (by rw [hss]; exact hs2) (.cells #[.slice ao E.length cap] 46))
  clear hss
  clear hown hb
  obtain ⟨L, hL⟩ : ∃ L, E.length = L := ⟨_, rfl⟩
  rw [hL] at hlen HR4 B3 h ⊢
  clear hL
  by_cases h1 : L = N
  · subst h1
    by_cases h2 : 1 ≤ L
    · have h3 : ¬ L ≤ 50 := fun h3 => h ⟨rfl, h2, h3⟩
      have d1 : decide ((L : Int) < 1) = false := decide_eq_false (by omega)
      have d2 : decide ((50 : Int) < (L : Int)) = true := decide_eq_true (by omega)
      clear h h2 h3
      go_wp2
      exact bodyPost_ret (v := .tuple #[.agg #[.slice none 0 0], .bool false]) (by simp [results, Tryd.results88, go_sem, cell_of_one HR4.out]) rfl ⟨none, 0, 0, rfl, World.ownsRow_nil _ _ _ _, B3.out⟩
    · have d1 : decide ((L : Int) < 1) = true := decide_eq_true (by omega)
      clear h h2
      go_wp2
      exact bodyPost_ret (v := .tuple #[.agg #[.slice none 0 0], .bool false]) (by simp [results, Tryd.results88, go_sem, cell_of_one HR4.out]) rfl ⟨none, 0, 0, rfl, World.ownsRow_nil _ _ _ _, B3.out⟩
  · have d1 : ((L : Int) != (N : Int)) = true := bne_iff_ne.2 (by omega)
    clear h
    go_wp2
    exact bodyPost_ret (v := .tuple #[.agg #[.slice none 0 0], .bool false]) (by simp [results, Tryd.results88, go_sem, cell_of_one HR4.out]) rfl ⟨none, 0, 0, rfl, World.ownsRow_nil _ _ _ _, B3.out⟩
end Go.Proofs.YtabkkpifkkgpeaaDoor

/- Contracts of single functions, and plain lemmas, on which the exact laws of this seat rest; each holds under the conditions that it states. -/
namespace Go.Proofs.YtabkkpifkkgpeaaDoor
set_option linter.unusedVariables false
set_option linter.unusedSimpArgs false
open Go.RowKit

theorem eqI_noE {a b : Int} (h : a ≠ b) : (a == b) = false := by simpa using h
theorem sl_form {w : World} {v : Value} {xs : List (Int × Int)} (h : SlS w v xs) : ∃ ao cap, v = .slice ao xs.length cap ∧ (0 < xs.length → ∃ b, ao = some ⟨b, 0, none⟩ ∧ Spots w b xs) := by
  rcases h with ⟨ao, cap, rfl, rfl⟩ | ⟨b, cap, rfl, _, h⟩
  · exact ⟨ao, cap, rfl, fun h => absurd h (by simp)⟩
  · exact ⟨_, cap, rfl, fun _ => ⟨b, rfl, h⟩⟩
theorem list_same {xs ys : List (Int × Int)} (hl : xs.length = ys.length) (h : ∀ j, j < xs.length → xs.getD j (0, 0) = ys.getD j (0, 0)) : xs = ys := by
  apply List.ext_getElem hl
  intro i h1 h2
  have := h i h1
  rwa [getD_of_lt h1, getD_of_lt h2] at this

set_option maxHeartbeats 2000000 in
set_option maxRecDepth 100000 in
theorem equalS_any (u v : Value) (xs ys : List (Int × Int)) (w : World) (h1 : xs.length ≤ 1048576) (h2 : ys.length ≤ 1048576) (hu : SlS w u xs) (hv : SlS w v ys) :
    Calls Tryd.prog 89 #[u, v] w (SaysB (decide (xs = ys)) w) := by
  obtain ⟨ao1, cap1, rfl, hf1⟩ := sl_form hu
  obtain ⟨ao2, cap2, rfl, hf2⟩ := sl_form hv
  clear hu hv
  by_cases hl : xs.length = ys.length
  · have HSame := Lib.hid (@list_same xs ys hl)
    have HNo : Hid (∀ j, xs.getD j (0, 0) ≠ ys.getD j (0, 0) → decide (xs = ys) = false) := fun j h => decide_eq_false (fun e => h (by rw [e]))
    have HYes : Hid (xs = ys → decide (xs = ys) = true) := fun h => decide_eq_true h
    rw [← hl] at hf2 h2 ⊢
    obtain ⟨n, hn⟩ : ∃ n, xs.length = n := ⟨_, rfl⟩
    rw [hn] at HSame hf1 hf2 h1 ⊢
    by_cases h0 : 0 < n
    · obtain ⟨b1, rfl, l1, hc1⟩ := hf1 h0
      obtain ⟨b2, rfl, l2, hc2⟩ := hf2 h0
      rw [hn] at hc1
      rw [← hl, hn] at hc2
      have HC1 := Lib.hid hc1
      have HC2 := Lib.hid hc2
      obtain ⟨r, hr⟩ : ∃ r, decide (xs = ys) = r := ⟨_, rfl⟩
      rw [hr] at HNo HYes ⊢
      clear hf1 hf2 hc1 hc2 hr hn hl h2
      go_enter Tryd.func89, Tryd.ntmps89
      go_wp2
      go_loopw [13] (fun iv wr => ∃ k : Nat, k ≤ n ∧ iv = .int .i64 k ∧ Hid (∀ j, j < k → xs.getD j (0, 0) = ys.getD j (0, 0)) ∧ Hid (Below w.heap.size w wr)) (fun iv _ => n - (intOf iv).toNat)
      case atStart => exact ⟨0, Nat.zero_le _, rfl, fun j h => absurd h (Nat.not_lt_zero j), Below.refl _ _⟩
      case round =>
        obtain ⟨k, hk, rfl, HJ, HB⟩ := hrel
        have hs := HB.out.size
        by_cases hlt : k < n
        · have klt : (k : Int) < (n : Int) := by omega
          have p0 := cell_kept HB.out (HC1.out k hlt).1
          have p1 := cell_kept HB.out (HC1.out k hlt).2
          have q0 := cell_kept HB.out (HC2.out k hlt).1
          have q1 := cell_kept HB.out (HC2.out k hlt).2
          have lb1 : b1 < wr.heap.size := by omega
          have lb2 : b2 < wr.heap.size := by omega
          have HNk := Lib.hid (HNo.out k)
          have HJs : Hid (xs.getD k (0, 0) = ys.getD k (0, 0) → ∀ j, j < k + 1 → xs.getD j (0, 0) = ys.getD j (0, 0)) := fun h j hj => by
            by_cases e : j = k
            · rw [e]; exact h
            · exact HJ.out j (by omega)
          obtain ⟨P, hP⟩ : ∃ P, xs.getD k (0, 0) = P := ⟨_, rfl⟩
          obtain ⟨Q, hQ⟩ : ∃ Q, ys.getD k (0, 0) = Q := ⟨_, rfl⟩
          rw [hP] at p0 p1 HNk HJs
          rw [hQ] at q0 q1 HNk HJs
          obtain ⟨x1, y1⟩ := P
          obtain ⟨x2, y2⟩ := Q
          simp only at p0 p1 q0 q1
          have HBd : ∀ m, Hid (Below w.heap.size w (wr.drewN m)) := fun m => HB.out.trans (Joins.below_draws w.heap.size _ _)
          clear hP hQ HB
          by_cases e1 : x1 = x2
          · by_cases e2 : y1 = y2
            · subst e1
              subst e2
              have HN := Lib.hid (HJs.out rfl)
              clear HJs HNk
              go_wp2_with fail
              go_quiet (fail)
              go_wp2
              go_roundw
              case rel => exact ⟨k + 1, by omega, by go_num, HN.out, (HBd _).out⟩
              case measure => simp [intOf]; omega
            · have b2' := eqI_noE e2
              have HR := Lib.hid (HNk.out (by intro h; exact e2 (Prod.mk.inj h).2))
              subst e1
              clear HJs HNk e2
              go_wp2_with fail
              go_quiet (fail)
              go_wp2
              go_ret
              exact ⟨ret_bool HR.out.symm, (HBd _).out⟩
          · have b1' := eqI_noE e1
            have HR := Lib.hid (HNk.out (by intro h; exact e1 (Prod.mk.inj h).1))
            clear HJs HNk e1
            go_wp2_with fail
            go_quiet (fail)
            go_wp2
            go_ret
            exact ⟨ret_bool HR.out.symm, (HBd _).out⟩
        · obtain rfl : k = n := by omega
          have HR := Lib.hid (HYes.out (HSame.out HJ.out))
          go_wp2
          go_ret
          exact ⟨ret_bool HR.out.symm, HB.out⟩
    · obtain rfl : n = 0 := by omega
      have HR := Lib.hid (HYes.out (HSame.out (fun j h => absurd h (Nat.not_lt_zero j))))
      clear hf1 hf2 hl HNo hn
      go_enter Tryd.func89, Tryd.ntmps89
      go_wp2
      refine wp_loop_rounds 1 ?_; rw [rounds_succ]
      go_wp2
      go_ret
      exact ⟨ret_bool HR.out.symm, Below.refl _ _⟩
  · have HR : Hid (decide (xs = ys) = false) := decide_eq_false (fun e => hl (by rw [e]))
    have hb : ((xs.length : Int) != (ys.length : Int)) = true := bne_iff_ne.2 (by omega)
    clear hf1 hf2 hl
    go_enter Tryd.func89, Tryd.ntmps89
    go_wp2
    go_ret
    exact ⟨ret_bool HR.out.symm, Below.refl _ _⟩
end Go.Proofs.YtabkkpifkkgpeaaDoor

/- Contracts of single functions, and plain lemmas, on which the exact laws of this seat rest; each holds under the conditions that it states. -/
namespace Go.Proofs.YtabkkpifkkgpeaaDoor
set_option linter.unusedVariables false
set_option linter.unusedSimpArgs false
open Go.RowKit

theorem elB_long {xs : List (Int × Int)} (h : ¬ xs.length ≤ 50) : elB xs = false := by unfold elB; rw [decide_eq_false h, Bool.and_false, Bool.and_false]
theorem validE_yes {xs : List (Int × Int)} (h : (elL (memB xs)).length = dC xs xs.length ∧ 1 ≤ dC xs xs.length ∧ dC xs xs.length ≤ 50) : elB xs = decide (elL (memB xs) = xs) := by
  rw [← valid_eq, decide_eq_true h.1, decide_eq_true h.2.1, decide_eq_true h.2.2]; simp
theorem validE_no {xs : List (Int × Int)} (h : ¬ ((elL (memB xs)).length = dC xs xs.length ∧ 1 ≤ dC xs xs.length ∧ dC xs xs.length ≤ 50)) : elB xs = false := by
  rw [← valid_eq]
  by_cases h1 : (elL (memB xs)).length = dC xs xs.length
  · by_cases h2 : 1 ≤ dC xs xs.length
    · rw [decide_eq_false (fun h3 => h ⟨h1, h2, h3⟩)]; simp
    · rw [decide_eq_false h2]; simp
  · rw [decide_eq_false h1]; simp

set_option maxHeartbeats 2000000 in
set_option maxRecDepth 100000 in
theorem impl_ValidElement (v : Value) (xs : List (Int × Int)) (w : World) (hN : xs.length ≤ 1048576) (hwf : ∀ p ∈ xs, (Lit.int .i64 p.1).wf = true ∧ (Lit.int .i64 p.2).wf = true) (hv : SlS w v xs) :
    Calls Tryd.prog 25 #[.agg #[v]] w (SaysB (elB xs) w) := by
  obtain ⟨ao, cap, rfl, _⟩ := sl_form hv
  have hA := Lib.hid (heap_alloc_last w (.cells #[.slice ao xs.length cap] 46))
  have HB0 := Lib.hid (Joins.below_alloc1 w (.cells #[.slice ao xs.length cap] 46))
  by_cases h50 : xs.length ≤ 50
  · have hs0 : (w.alloc (.cells #[.slice ao xs.length cap] 46)).heap.size = w.heap.size + 1 := by simp
    have HV := Lib.hid (hv.below HB0.out)
    have CO := Lib.hid (offsetsOf_any _ xs (w.alloc (.cells #[.slice ao xs.length cap] 46)) hN hwf HV.out)
    have k50 : decide ((50 : Int) < (xs.length : Int)) = false := decide_eq_false (by omega)
    by_cases hc : (elL (memB xs)).length = dC xs xs.length ∧ 1 ≤ dC xs xs.length ∧ dC xs xs.length ≤ 50
    · have HR := Lib.hid (validE_yes hc)
      have CE := Lib.hid (fun b m W (hs : SetS W b m (dC xs xs.length) xs) => element_yes b m _ xs W hs hc.1 hc.2.1 hc.2.2)
      have CQ := Lib.hid (fun u z W (hu : SlS W u (elL (memB xs))) (hz : SlS W z xs) => equalS_any u z _ xs W (by have := elL_len (memB xs); omega) hN hu hz)
      obtain ⟨E, hE⟩ : ∃ E, elL (memB xs) = E := ⟨_, rfl⟩
      rw [hE] at HR CE CQ
      obtain ⟨r, hr⟩ : ∃ r, decide (E = xs) = r := ⟨_, rfl⟩
      rw [hr] at HR CQ
      clear hv hwf hc hE hr
      go_enter Tryd.func25, Tryd.ntmps25
      go_wp2_with fail
      refine CO.out.mono ?_
      rintro e w2 ⟨b, rfl, hset, hb2⟩
      have B2 := Lib.hid (HB0.out.trans (hb2.mono (by rw [hs0]; omega)))
      have V2 := Lib.hid (HV.out.below hb2)
      have A2 := Lib.hid ((hb2.block w.heap.size (by rw [hs0]; omega)).trans hA.out)
      have HSet := Lib.hid hset
      clear hset hb2
      go_wp2_with fail
      refine (CE.out _ _ _ HSet.out).mono ?_
      rintro e w3 ⟨ao3, n3, cap3, rfl, hown, hb3⟩
      have B3 := Lib.hid (B2.out.trans (hb3.mono B2.out.size))
      have V3 := Lib.hid (V2.out.below hb3)
      have A3 := Lib.hid ((hb3.block w.heap.size (Array.getElem?_eq_some_iff.1 A2.out).1).trans A2.out)
      have S3 := Lib.hid (OwnS.sl hown)
      have c0 := cell_of_one A3.out
      have hl3 := (Array.getElem?_eq_some_iff.1 A3.out).1
      have hs3 := B3.out.size
      have hb4 := Joins.below_alloc1 w3 (.cells #[.slice ao3 n3 cap3] 46)
      have S4 := Lib.hid (S3.out.below hb4)
      have V4 := Lib.hid (V3.out.below hb4)
      have B4 := Lib.hid (B3.out.alloc hs3 (.cells #[.slice ao3 n3 cap3] 46))
      clear hown hb3 hb4
      go_wp2_with fail
      refine (CQ.out _ _ _ S4.out V4.out).mono ?_
      rintro e w5 ⟨rfl, hb5⟩
      have B5 := Lib.hid (B4.out.trans (hb5.mono (by simp; omega)))
      clear hb5
      go_wp2
      go_ret
      exact ⟨ret_bool HR.out.symm, B5.out⟩
    · have HR := Lib.hid (validE_no hc)
      have CE := Lib.hid (fun b m W (hs : SetS W b m (dC xs xs.length) xs) => element_no b m _ xs W hs hc)
      clear hv hwf hc
      go_enter Tryd.func25, Tryd.ntmps25
      go_wp2_with fail
      refine CO.out.mono ?_
      rintro e w2 ⟨b, rfl, hset, hb2⟩
      have B2 := Lib.hid (HB0.out.trans (hb2.mono (by rw [hs0]; omega)))
      have HSet := Lib.hid hset
      clear hset hb2
      go_wp2_with fail
      refine (CE.out _ _ _ HSet.out).mono ?_
      rintro e w3 ⟨ao3, n3, cap3, rfl, hown, hb3⟩
      have B3 := Lib.hid (B2.out.trans (hb3.mono B2.out.size))
      have B4 := Lib.hid (B3.out.alloc B3.out.size (.cells #[.slice ao3 n3 cap3] 46))
      clear hown hb3
      go_wp2
      go_ret
      exact ⟨ret_bool HR.out.symm, B4.out⟩
  · have HR := Lib.hid (elB_long h50)
    have k50 : (50 : Int) < (xs.length : Int) := by omega
    clear hv hwf
    go_enter Tryd.func25, Tryd.ntmps25
    go_wp2
    go_ret
    exact ⟨ret_bool HR.out.symm, HB0.out⟩

end Go.Proofs.YtabkkpifkkgpeaaDoor
