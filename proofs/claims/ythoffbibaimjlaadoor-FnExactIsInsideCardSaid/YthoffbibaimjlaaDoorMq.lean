/- Contracts of single functions, and plain lemmas, on which the exact laws of this seat rest; each holds under the conditions that it states. -/
import Derived.Test.YthoffbibaimjlaaDoorPb
import Derived.Deep.MidRow
import Derived.Deep.RegionHeld3
namespace Go.Proofs.YthoffbibaimjlaaDoor
set_option linter.unusedVariables false
set_option linter.unusedSimpArgs false
open Go.RowKit

theorem setRow_alloc_under (w : World) (c c' : Array Value) (t : TypeId) (X : Obj) : ((w.alloc (.cells c t)).alloc X).setRow w.heap.size c' = (w.alloc (.cells c' t)).alloc X := by
  simp only [World.setRow, World.alloc]
  congr 1
  apply Array.ext_getElem?
  intro i
  rw [Array.getElem?_modify]
  by_cases h : w.heap.size = i
  · subst h
    simp [Array.getElem?_push]
  · have h' : ¬ i = w.heap.size := fun e => h e.symm
    simp [h, h', Array.getElem?_push]

section
variable {P : Program} {ops : Array Oper} {rest : List Oper} {o : Oper} {a : Act} {Q : Exit → Act → World → Prop}
/-- a whole row is stored into the block that was made last but one -/
theorem wpList_store_under (w1 : World) (X : Obj) (hgd : o.guard = none) (ty : TypeId) (x y : Operand) (ho : o.op = .store ty x y)
    (cells : Array Value) (hx : a.eval x = .pointer (some ⟨w1.heap.size, 0, none⟩)) (hy : a.eval y = .agg cells)
    (t : TypeId) (old : Array Value) (hi : (P.info? ty).map (·.size) = some cells.size)
    (hold : old.size = cells.size) (h1 : cells.all (·.oneCell') = true)
    (h : wpList P ops Q rest (a.put o.dst undef) ((w1.alloc (.cells cells t)).alloc X)) : wpList P ops Q (o :: rest) a ((w1.alloc (.cells old t)).alloc X) :=
  wpList_store_row hgd ty x y ho w1.heap.size cells hx hy t old (by rw [Below.heap_alloc _ _ _ (by simp)]; exact heap_alloc_last w1 _) hi hold h1 (by rw [setRow_alloc_under]; exact h)
end

/-- two structs in variables, and one thing more, handed back -/
theorem results_cell2_tmp {P : Program} {fn : Func} {p p2 q : Tmp} {ty : TypeId} (h : fn.results = #[.cell p ty, .cell p2 ty, .tmp q]) (tmps : Array Value) (w : World) (g g2 : Nat) (t t2 : TypeId) (cs cs2 : Array Value) (fr fr2 : Nat × Nat) (d : TypeDesc)
    (hp : tmps.getD p undef = .pointer (some ⟨g, 0, none⟩)) (hg : w.heap[g]? = some (.cells cs t fr))
    (hp2 : tmps.getD p2 undef = .pointer (some ⟨g2, 0, none⟩)) (hg2 : w.heap[g2]? = some (.cells cs2 t2 fr2))
    (hu : P.underlying ty = some d) (hd : (match d with | .struct _ | .array _ _ => true | _ => false) = true) (hi : (P.info? ty).map (·.size) = some cs.size) (hi2 : (P.info? ty).map (·.size) = some cs2.size) :
    (results fn tmps).run P w = .ok (.tuple #[.agg cs, .agg cs2, tmps.getD q undef]) w := by
  have hp' : tmps[p]?.getD undef = .pointer (some ⟨g, 0, none⟩) := by simpa using hp
  have hp2' : tmps[p2]?.getD undef = .pointer (some ⟨g2, 0, none⟩) := by simpa using hp2
  simp [results, h, hp', hp2', asAddr, run_loadVar_row w g t ty cs fr d hg hu hd hi, run_loadVar_row w g2 t2 ty cs2 fr2 d hg2 hu hd hi2]

/-- two pictures are valid and of one size -/
def likeB (ss tt : List ByteArray) : Bool := validB ss && validB tt && decide ((row0 ss).size = (row0 tt).size) && decide (ss.length = tt.length)
def MatsOf (ss tt : List ByteArray) (w : World) (e : Ending) (w' : World) : Prop :=
  e = .returned (.tuple #[.agg (if likeB ss tt then matC ss else zeros), .agg (if likeB ss tt then matC tt else zeros), .bool (likeB ss tt)]) ∧ Below w.heap.size w w'

theorem range_of_block {W : World} {g : Nat} {C : Array Value} {t : TypeId} (h : W.heap[g]? = some (.cells C t (0, 0))) : W.rangeAt g 0 C.toList := fun j v hv => by
  rw [Nat.zero_add, Joins.cell_of_block h j]
  simpa using hv
theorem there_of_block {W : World} {g : Nat} {C : Array Value} {t : TypeId} (h : W.heap[g]? = some (.cells C t (0, 0))) (hs : C.size = 18) : W.there g 0 18 := fun j hj => by
  rw [Joins.cell_of_block h, Joins.unfrozen_of_block h, Nat.zero_add]
  exact ⟨by rw [Array.getElem?_eq_getElem (by omega)]; rfl, rfl⟩

set_option maxHeartbeats 2000000 in
set_option maxRecDepth 100000 in
theorem matricesOf_yes (u v : Value) (ss tt : List ByteArray) (w : World) (hN : ss.length ≤ maxLen) (hz : ∀ s ∈ ss, s.size ≤ maxLen) (hu : Sl w u ss) (hN2 : tt.length ≤ maxLen) (hz2 : ∀ s ∈ tt, s.size ≤ maxLen) (hv : Sl w v tt) (he : ErrLen w) (hok : likeB ss tt = true) :
    Calls Tryd.prog 20 #[.agg #[u], .agg #[v]] w (fun e w' => e = .returned (.tuple #[.agg (matC ss), .agg (matC tt), .bool true]) ∧ Below w.heap.size w w') := by
  have h4 := hok
  unfold likeB at h4
  simp only [Bool.and_eq_true, decide_eq_true_eq] at h4
  obtain ⟨⟨⟨v1, v2⟩, e1⟩, e2⟩ := h4
  obtain ⟨W0, hW0⟩ : ∃ W0, ((((w.alloc (.cells #[u] 27)).alloc (.cells #[v] 27)).alloc (.cells zeros 44)).alloc (.cells zeros 44)) = W0 := ⟨_, rfl⟩
  have b0 : Below w.heap.size w W0 := by
    rw [← hW0]; exact (Joins.below_alloc2 w _ _).trans ((Joins.below_alloc2 _ _ _).mono (by simp; omega))
  have q0 : W0.heap[w.heap.size]? = some (.cells #[u] 27 (0, 0)) := by
    rw [← hW0, Below.heap_alloc _ _ _ (by simp; try omega), Below.heap_alloc _ _ _ (by simp; try omega), Below.heap_alloc _ _ _ (by simp)]; exact heap_alloc_last w _
  have q1 : W0.heap[w.heap.size + 1]? = some (.cells #[v] 27 (0, 0)) := by
    rw [← hW0, Below.heap_alloc _ _ _ (by simp; try omega), Below.heap_alloc _ _ _ (by simp; try omega)]; exact heap_alloc2_new _ _ _
  have q2 : W0.heap[w.heap.size + 1 + 1]? = some (.cells zeros 44 (0, 0)) := by
    rw [← hW0, Below.heap_alloc _ _ _ (by simp)]
    have := heap_alloc_last ((w.alloc (.cells #[u] 27)).alloc (.cells #[v] 27)) (.cells zeros 44)
    simpa using this
  have q3 : W0.heap[w.heap.size + 1 + 1 + 1]? = some (.cells zeros 44 (0, 0)) := by
    have := heap_alloc_last (((w.alloc (.cells #[u] 27)).alloc (.cells #[v] 27)).alloc (.cells zeros 44)) (.cells zeros 44)
    rw [← hW0]; simpa using this
  have c0 : ((((w.alloc (.cells #[u] 27)).alloc (.cells #[v] 27)).alloc (.cells zeros 44)).alloc (.cells zeros 44)).cell? ⟨w.heap.size, 0, none⟩ = some u := by rw [hW0]; exact cell_of_one q0
  have C1 := Lib.hid (matrixOf_any u ss _ hN hz (hu.below b0) (he.below b0))
  rw [← hW0] at C1
  have HC2 : Hid (∀ W, Below w.heap.size w W → Calls Tryd.prog 25 #[.agg #[v]] W (MatOf tt W)) := fun W hb => matrixOf_any v tt W hN2 hz2 (hv.below hb) (he.below hb)
  unfold MatOf at C1 HC2
  rw [v1] at C1
  rw [v2] at HC2
  have s1 := matC_size ss
  have o1 := matC_one ss
  have m1 := matC_yes v1
  have s2 := matC_size tt
  have o2 := matC_one tt
  have m2 := matC_yes v2
  obtain ⟨M1, hM1⟩ : ∃ M, matC ss = M := ⟨_, rfl⟩
  obtain ⟨M2, hM2⟩ : ∃ M, matC tt = M := ⟨_, rfl⟩
  rw [hM1] at C1 s1 o1 m1 ⊢
  rw [hM2] at HC2 s2 o2 m2 ⊢
  rw [← e1, ← e2] at m2
  obtain ⟨a, ha⟩ : ∃ a, (row0 ss).size = a := ⟨_, rfl⟩
  obtain ⟨b, hbb⟩ : ∃ b, ss.length = b := ⟨_, rfl⟩
  rw [ha, hbb] at m1 m2
  have HI1 : Hid ((Tryd.prog.info? 44).map (·.size) = some M1.size) := by show _ = _; rw [s1]; exact infoM
  have HI2 : Hid ((Tryd.prog.info? 44).map (·.size) = some M2.size) := by show _ = _; rw [s2]; exact infoM
  have HZ1 := Lib.hid (zeros_size.trans s1.symm)
  have HZ2 := Lib.hid (zeros_size.trans s2.symm)
  have HO1 := Lib.hid o1
  have HO2 := Lib.hid o2
  have HM1 := Lib.hid m1
  have HM2 := Lib.hid m2
  have HS1 := Lib.hid s1
  have HS2 := Lib.hid s2
  have Q1 := Lib.hid q1
  have Q2 := Lib.hid q2
  have Q3 := Lib.hid q3
  have B0 := Lib.hid b0
  have HW0 := Lib.hid hW0
  clear s1 s2 o1 o2 m1 m2 q0 q1 q2 q3 b0 hW0 hu hv he v1 v2 e1 e2 hok ha hbb hM1 hM2
  go_enter Tryd.func20, Tryd.ntmps20
  go_wp2_with fail
  refine C1.out.mono ?_
  rintro e w1 ⟨rfl, hb1⟩
  rw [HW0.out] at hb1
  have l0 : w.heap.size + 1 + 1 + 1 < W0.heap.size := (Array.getElem?_eq_some_iff.1 Q3.out).1
  have hba := hb1.trans ((Joins.below_alloc1 w1 (.cells M1 44)).mono hb1.size)
  have P1 := Lib.hid ((hba.block (w.heap.size + 1) (by omega)).trans Q1.out)
  have P2 := Lib.hid ((hba.block (w.heap.size + 1 + 1) (by omega)).trans Q2.out)
  have P3 := Lib.hid ((hba.block (w.heap.size + 1 + 1 + 1) (by omega)).trans Q3.out)
  have A1 : Hid ((w1.alloc (.cells M1 44)).heap[w1.heap.size]? = some (.cells M1 44 (0, 0))) := heap_alloc_last w1 _
  have B1 := Lib.hid (B0.out.trans (hba.mono B0.out.size))
  have l1 : w.heap.size + 1 + 1 + 1 < w1.heap.size := Nat.lt_of_lt_of_le l0 hb1.size
  have c1 : (w1.alloc (.cells M1 44)).cell? ⟨w.heap.size + 1, 0, none⟩ = some v := cell_of_one P1.out
  have C2 := Lib.hid (HC2.out _ B1.out)
  clear hb1 hba c0
  go_wp2_with (refine wpList_store_new w1 rfl 44 _ _ rfl M1 rfl rfl 44 zeros HI1.out HZ1.out HO1.out ?_)
  refine C2.out.mono ?_
  rintro e w2 ⟨rfl, hb2⟩
  have hba := hb2.trans ((Joins.below_alloc1 w2 (.cells M2 44)).mono hb2.size)
  have hsz := B1.out.size
  have hs2 : w1.heap.size + 1 ≤ w2.heap.size := by have := hb2.size; simpa using this
  have R2 := Lib.hid ((hba.block (w.heap.size + 1 + 1) (by simp; omega)).trans P2.out)
  have R3 := Lib.hid ((hba.block (w.heap.size + 1 + 1 + 1) (by simp; omega)).trans P3.out)
  have A2 := Lib.hid ((hba.block w1.heap.size (by simp)).trans A1.out)
  have D2 : Hid ((w2.alloc (.cells M2 44)).heap[w2.heap.size]? = some (.cells M2 44 (0, 0))) := heap_alloc_last w2 _
  have B2 := Lib.hid (B1.out.trans (hba.mono hsz))
  have ca0 : (w2.alloc (.cells M2 44)).cell? ⟨w1.heap.size, 0, none⟩ = some (.int .i64 a) := by rw [Joins.cell_of_block A2.out 0, HM1.out]; rfl
  have ca1 : (w2.alloc (.cells M2 44)).cell? ⟨w1.heap.size, 1, none⟩ = some (.int .i64 b) := by rw [Joins.cell_of_block A2.out 1, HM1.out]; rfl
  have cb0 : (w2.alloc (.cells M2 44)).cell? ⟨w2.heap.size, 0, none⟩ = some (.int .i64 a) := by rw [Joins.cell_of_block D2.out 0, HM2.out]; rfl
  have cb1 : (w2.alloc (.cells M2 44)).cell? ⟨w2.heap.size, 1, none⟩ = some (.int .i64 b) := by rw [Joins.cell_of_block D2.out 1, HM2.out]; rfl
  have k1 : ((a : Int) != (a : Int)) = false := by simp
  have k2 : ((b : Int) != (b : Int)) = false := by simp
  clear hb2 hba c1
  go_wp2_with (refine wpList_store_new w2 rfl 44 _ _ rfl M2 rfl rfl 44 zeros HI2.out HZ2.out HO2.out ?_)
  have l2 : w1.heap.size < (w2.alloc (.cells M2 44)).heap.size := by simp; omega
  generalize hW5 : w2.alloc (.cells M2 44) = W5 at R2 R3 A2 D2 B2 l2 ⊢
  have t1 : W5.rangeAt w1.heap.size 0 M1.toList := range_of_block A2.out
  have t2 : W5.rangeAt w2.heap.size 0 M2.toList := range_of_block D2.out
  have t3 : W5.there (w.heap.size + 1 + 1) 0 18 := there_of_block R2.out rfl
  have t4 : W5.there (w.heap.size + 1 + 1 + 1) 0 18 := there_of_block R3.out rfl
  have e1 : M1.toList.length = M1.size := Array.length_toList
  have e2 : M2.toList.length = M2.size := Array.length_toList
  have i1 : (Tryd.prog.info? 44).map (·.size) = some M1.toList.length := by rw [e1]; exact HI1.out
  have i2 : (Tryd.prog.info? 44).map (·.size) = some M2.toList.length := by rw [e2]; exact HI2.out
  have hs3 := B2.out.size
  clear ca0 ca1 cb0 cb1 k1 k2 hW5
  refine wp_region_held_drew (S := fun w' => w'.rangeAt w1.heap.size 0 M1.toList ∧ w'.rangeAt w2.heap.size 0 M2.toList ∧ w'.there (w.heap.size + 1 + 1) 0 18 ∧ w'.there (w.heap.size + 1 + 1 + 1) 0 18) (by kernel_rfl) ?_ (fun hHeld => ?_)
  · exact ⟨(World.rangeAt_drew _ _ _ _).2 t1, (World.rangeAt_drew _ _ _ _).2 t2, (World.there_drew _ _ _ _).2 t3, (World.there_drew _ _ _ _).2 t4⟩
  refine' wpAnyH_take (i := 0) (oi := _) (v := .agg M1.toList.toArray) rfl (by kernel_rfl) (by kernel_rfl) (by kernel_rfl) (fun _ _ _ h => h) (yieldsIf_load_mid (by rfl) _ _ rfl _ _ rfl _ _ (fun w h => h.1) Tryd.underlying44 rfl i1) hHeld ?_
  try simp only [Act.put, List.setIfInBounds_toArray, List.set_cons_zero, List.set_cons_succ]
  refine' wpAnyH_take (i := 1) (oi := _) (v := .agg M2.toList.toArray) rfl (by kernel_rfl) (by kernel_rfl) (by kernel_rfl) (fun _ _ _ h => h) (yieldsIf_load_mid (by rfl) _ _ rfl _ _ rfl _ _ (fun w h => h.2.1) Tryd.underlying44 rfl i2) hHeld ?_
  simp only [Act.put, List.setIfInBounds_toArray, List.set_cons_zero, List.set_cons_succ, Array.toArray_toList]
  refine wpAnyH_ready (rs := [2]) (by kernel_rfl) (by simp) ?_
  refine AllReadyH.cons (o := _) rfl (fun K hK => ?_) ?_
  rotate_left
  · exact AllReadyH.nil
  rw [if_pos (by rfl)]
  refine wp_store_mid _ _ _ rfl _ _ M1 rfl rfl (by rw [HS1.out]; exact hHeld.2.2.1) HI1.out HO1.out ?_
  refine hK.out _ _ ?_ (fun hHeld2 => ?_)
  · exact ⟨World.rangeAt_setCells_apart hHeld.1 _ _ _ (Or.inl (by omega)), World.rangeAt_setCells_apart hHeld.2.1 _ _ _ (Or.inl (by omega)), World.there_setCells hHeld.2.2.1 _ _ _, World.there_setCells hHeld.2.2.2 _ _ _⟩
  clear hK K
  try simp only [Act.put, List.setIfInBounds_toArray, List.set_cons_zero, List.set_cons_succ]
  refine wpAnyH_ready (rs := [3]) (by kernel_rfl) (by simp) ?_
  refine AllReadyH.cons (o := _) rfl (fun K hK => ?_) ?_
  rotate_left
  · exact AllReadyH.nil
  rw [if_pos (by rfl)]
  refine wp_store_mid _ _ _ rfl _ _ M2 rfl rfl (by rw [HS2.out]; exact hHeld2.2.2.2) HI2.out HO2.out ?_
  refine hK.out _ _ ?_ (fun hHeld3 => ?_)
  · exact ⟨World.rangeAt_setCells_apart hHeld2.1 _ _ _ (Or.inl (by omega)), World.rangeAt_setCells_apart hHeld2.2.1 _ _ _ (Or.inl (by omega)), World.there_setCells hHeld2.2.2.1 _ _ _, World.there_setCells hHeld2.2.2.2 _ _ _⟩
  clear hK K
  try simp only [Act.put, List.setIfInBounds_toArray, List.set_cons_zero, List.set_cons_succ]
  obtain ⟨W6, hW6⟩ : ∃ W6, (W5.drew.setCells (w.heap.size + 1 + 1) 0 M1.toList) = W6 := ⟨_, rfl⟩
  have f1 : W6.heap[w.heap.size + 1 + 1]? = some (.cells M1 44 (0, 0)) := by
    rw [← hW6]
    have := setCells_block (w.heap.size + 1 + 1) 44 M1.toList 0 zeros W5.drew R2.out (by rw [e1, HS1.out]; rfl)
    simpa using this
  have f2 : W6.heap[w.heap.size + 1 + 1 + 1]? = some (.cells zeros 44 (0, 0)) := by
    rw [← hW6, setCells_far _ _ (by omega)]; exact R3.out
  have f3 : Below w.heap.size w W6 := by
    rw [← hW6]
    obtain ⟨r1, r2, r3, r4⟩ := setCells_rest (w.heap.size + 1 + 1) M1.toList 0 W5.drew
    refine B2.out.drew.trans ⟨r1, r2, r3, by rw [r4]; exact Nat.le_refl _, fun k hk => ?_⟩
    exact setCells_far _ _ (by omega) _ _ _
  rw [hW6]
  obtain ⟨W7, hW7⟩ : ∃ W7, (W6.setCells (w.heap.size + 1 + 1 + 1) 0 M2.toList) = W7 := ⟨_, rfl⟩
  have f4 : W7.heap[w.heap.size + 1 + 1 + 1]? = some (.cells M2 44 (0, 0)) := by
    rw [← hW7]
    have := setCells_block (w.heap.size + 1 + 1 + 1) 44 M2.toList 0 zeros W6 f2 (by rw [e2, HS2.out]; rfl)
    simpa using this
  have f5 : W7.heap[w.heap.size + 1 + 1]? = some (.cells M1 44 (0, 0)) := by
    rw [← hW7, setCells_far _ _ (by omega)]; exact f1
  have f6 : Below w.heap.size w W7 := by
    rw [← hW7]
    obtain ⟨r1, r2, r3, r4⟩ := setCells_rest (w.heap.size + 1 + 1 + 1) M2.toList 0 W6
    refine f3.trans ⟨r1, r2, r3, by rw [r4]; exact Nat.le_refl _, fun k hk => ?_⟩
    exact setCells_far _ _ (by omega) _ _ _
  rw [hW6, hW7] at hHeld3
  rw [hW7]
  refine wpAnyH_ready (rs := [4]) (by kernel_rfl) (by simp) ?_
  refine AllReadyH.cons (o := _) rfl (fun K hK => ?_) ?_
  rotate_left
  · exact AllReadyH.nil
  go_simp
  refine hK.out _ _ hHeld3 (fun hHeld4 => ?_)
  clear hK K
  try simp only [Act.put, List.setIfInBounds_toArray, List.set_cons_zero, List.set_cons_succ]
  refine wpAnyH_done (by kernel_rfl) ?_ _
  have F4 := Lib.hid f4
  have F5 := Lib.hid f5
  have F6 := Lib.hid f6
  clear f1 f2 f3 f4 f5 f6 hW6 hW7 hHeld hHeld2 hHeld3 hHeld4 t1 t2 t3 t4 i1 i2 e1 e2
  go_wp2
  exact bodyPost_ret (results_cell2_tmp rfl _ _ (w.heap.size + 1 + 1) (w.heap.size + 1 + 1 + 1) 44 44 M1 M2 (0, 0) (0, 0) _ rfl F5.out rfl F4.out Tryd.underlying44 rfl HI1.out HI2.out) rfl ⟨rfl, F6.out⟩
end Go.Proofs.YthoffbibaimjlaaDoor
