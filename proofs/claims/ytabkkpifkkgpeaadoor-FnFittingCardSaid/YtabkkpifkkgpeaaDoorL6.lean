/- Contracts of single functions, and plain lemmas, on which the exact laws of this seat rest; each holds under the conditions that it states. -/
import Derived.Test.YtabkkpifkkgpeaaDoorL5
import Derived.Test.YtabkkpifkkgpeaaDoorAs
import Derived.Test.YtabkkpifkkgpeaaDoorAh
namespace Go.Proofs.YtabkkpifkkgpeaaDoor
set_option linter.unusedVariables false
set_option linter.unusedSimpArgs false
open Go.RowKit
attribute [local go_sem] Oper.semAt_some

/-- a valid element -/
structure ElOk (xs : List (Int × Int)) : Prop where
  pos : 0 < xs.length
  len : xs.length ≤ 50
  rng : ∀ o ∈ xs, (-4 ≤ o.1 ∧ o.1 ≤ 4) ∧ (-4 ≤ o.2 ∧ o.2 ≤ 4)
theorem elOk_of {xs : List (Int × Int)} (h : elB xs = true) : ElOk xs := by
  rw [← valid_eq] at h
  simp only [Bool.and_eq_true, decide_eq_true_eq] at h
  have e := h.2
  have l : xs.length = dC xs xs.length := by rw [← h.1.1, e]
  exact ⟨by omega, by omega, fun o ho => by rw [← e] at ho; exact ((elL_mem _ o).1 ho).1⟩
theorem mem_memB (xs : List (Int × Int)) (p : Int × Int) : memB xs p.1 p.2 = true ↔ p ∈ xs := by
  unfold memB
  simp
theorem ElOk.mir {xs : List (Int × Int)} (h : ElOk xs) : 0 < (elL (miF xs)).length ∧ (elL (miF xs)).length ≤ 81 ∧ ∀ o ∈ elL (miF xs), (-4 ≤ o.1 ∧ o.1 ≤ 4) ∧ (-4 ≤ o.2 ∧ o.2 ≤ 4) := by
  refine ⟨?_, elL_len _, fun o ho => ((elL_mem _ o).1 ho).1⟩
  cases xs with
  | nil => exact absurd h.pos (by simp)
  | cons p xs =>
    have hr := h.rng p (by simp)
    have : (-p.1, -p.2) ∈ elL (miF (p :: xs)) := by
      rw [elL_mem]
      refine ⟨⟨⟨by show -4 ≤ -p.1; omega, by show -p.1 ≤ 4; omega⟩, ⟨by show -4 ≤ -p.2; omega, by show -p.2 ≤ 4; omega⟩⟩, ?_⟩
      show memB (p :: xs) (- -p.1) (- -p.2) = true
      rw [Int.neg_neg, Int.neg_neg]
      exact (mem_memB (p :: xs) p).2 (by simp)
    exact List.length_pos_of_mem this
/-! ### grown, shrunk, opened, closed -/
def grG (g : Nat → Nat) (xs : List (Int × Int)) : Nat → Nat := mvA 1 g xs
def shG2 (g : Nat → Nat) (xs : List (Int × Int)) : Nat → Nat := mvA 0 g (elL (miF xs))
def opG (g : Nat → Nat) (xs : List (Int × Int)) : Nat → Nat := grG (shG2 g xs) xs
def clG (g : Nat → Nat) (xs : List (Int × Int)) : Nat → Nat := shG2 (grG g xs) xs

set_option maxHeartbeats 4000000 in
set_option maxRecDepth 100000 in
theorem grown_any (a b : Nat) (g : Nat → Nat) (v : Value) (xs : List (Int × Int)) (w : World) (hg : PlW g) (hv : SlS w v xs) (hcap : ∀ ao n c, v = .slice ao n c → n ≤ c) (hE : ElOk xs) :
    Calls Tryd.prog 81 #[.agg (pl a b g), .agg #[v]] w fun e w' => e = .returned (.agg (pl a b (grG g xs))) ∧ Below w.heap.size w w' := by
  obtain ⟨NX, hNX⟩ : ∃ P, pl a b (grG g xs) = P := ⟨_, rfl⟩
  have HI4 : Hid ((Tryd.prog.info? 113).map (·.size) = some NX.size) := by show _ = _; rw [← hNX]; exact infoPl
  have HI5 : Hid (zerosP.size = NX.size) := by show _ = _; rw [← hNX]; rfl
  have HI6 : Hid (NX.all (·.oneCell') = true) := by show _ = _; rw [← hNX]; exact pl_one _ _ _
  obtain ⟨M, hM⟩ : ∃ M, pl a b g = M := ⟨_, rfl⟩
  have HI : Hid ((Tryd.prog.info? 113).map (·.size) = some M.size) := by show _ = _; rw [← hM]; exact infoPl
  rw [hM, hNX]
  have CAl : Hid (∀ W, SlS W v xs → Calls Tryd.prog 135 #[.agg M, .agg #[v], .func (.func 85) #[.int .i64 1] #[]] W fun e w' => e = .returned (.agg NX) ∧ Below W.heap.size W w') := fun W h => by
    rw [← hM, ← hNX]
    exact movedAll_any 1 a b g v xs W (by omega) hg h hcap hE.pos (by have := hE.len; omega) hE.rng
  obtain ⟨W0, hW0⟩ : ∃ W0, ((w.alloc (.cells M 113)).alloc (.cells #[v] 46)).alloc (.cells #[.int .i64 0, .int .i64 0, .int .u32 0, .int .u32 0, .int .u32 0, .int .u32 0, .int .u32 0, .int .u32 0, .int .u32 0, .int .u32 0, .int .u32 0, .int .u32 0, .int .u32 0, .int .u32 0, .int .u32 0, .int .u32 0, .int .u32 0, .int .u32 0, .int .u32 0, .int .u32 0, .int .u32 0, .int .u32 0, .int .u32 0, .int .u32 0, .int .u32 0, .int .u32 0] 113) = W0 := ⟨_, rfl⟩
  have hz : zerosP = #[.int .i64 0, .int .i64 0, .int .u32 0, .int .u32 0, .int .u32 0, .int .u32 0, .int .u32 0, .int .u32 0, .int .u32 0, .int .u32 0, .int .u32 0, .int .u32 0, .int .u32 0, .int .u32 0, .int .u32 0, .int .u32 0, .int .u32 0, .int .u32 0, .int .u32 0, .int .u32 0, .int .u32 0, .int .u32 0, .int .u32 0, .int .u32 0, .int .u32 0, .int .u32 0] := rfl
  have hw0 : W0.heap.size = w.heap.size + 1 + 1 + 1 := by rw [← hW0]; simp
  have hb0 : Below w.heap.size w W0 := by rw [← hW0]; exact Joins.below_alloc3 _ _ _ _
  have hq0 : W0.heap[w.heap.size]? = some (.cells M 113 (0, 0)) := by
    rw [← hW0, Below.heap_alloc _ _ _ (by simp; omega), Below.heap_alloc _ _ _ (by simp)]; exact heap_alloc_last w _
  have he0 : W0.heap[w.heap.size + 1]? = some (.cells #[v] 46 (0, 0)) := by
    rw [← hW0, Below.heap_alloc _ _ _ (by simp)]
    exact heap_alloc2_new _ _ _
  have hr0 : W0.heap[w.heap.size + 1 + 1]? = some (.cells zerosP 113 (0, 0)) := by
    rw [← hW0, hz]
    have := heap_alloc_last ((w.alloc (.cells M 113)).alloc (.cells #[v] 46)) (.cells #[.int .i64 0, .int .i64 0, .int .u32 0, .int .u32 0, .int .u32 0, .int .u32 0, .int .u32 0, .int .u32 0, .int .u32 0, .int .u32 0, .int .u32 0, .int .u32 0, .int .u32 0, .int .u32 0, .int .u32 0, .int .u32 0, .int .u32 0, .int .u32 0, .int .u32 0, .int .u32 0, .int .u32 0, .int .u32 0, .int .u32 0, .int .u32 0, .int .u32 0, .int .u32 0] 113)
    simpa only [World.size_alloc] using this
  have HW0 := Lib.hid hW0
  have HB0 := Lib.hid hb0
  have HS0 : Hid (∀ W, Below W0.heap.size W0 W → W.heap[w.heap.size]? = some (.cells M 113 (0, 0))) := fun W hb => (hb.block _ (Array.getElem?_eq_some_iff.1 hq0).1).trans hq0
  have HE0 : Hid (∀ W, Below W0.heap.size W0 W → W.cell? ⟨w.heap.size + 1, 0, none⟩ = some v) := fun W hb => cell_kept hb (cell_of_one he0)
  have HR0 : Hid (∀ W, Below W0.heap.size W0 W → W.heap[w.heap.size + 1 + 1]? = some (.cells zerosP 113 (0, 0))) := fun W hb => (hb.block _ (Array.getElem?_eq_some_iff.1 hr0).1).trans hr0
  have HV0 : Hid (∀ W, Below W0.heap.size W0 W → SlS W v xs) := fun W hb => (hv.below hb0).below hb
  have qM := HS0.out W0 (Below.refl _ _)
  have qe := HE0.out W0 (Below.refl _ _)
  have qR := HR0.out W0 (Below.refl _ _)
  have HMx := Lib.hid qM
  have hmf : ∀ (fn : Fn) (first cap : Array Value) (w : World), (Instr.makeFunc fn first cap).run Tryd.prog w = .ok (.func fn first cap) w := fun _ _ _ _ => rfl
  clear hM hNX hW0 hz hw0 hb0 hq0 he0 hr0 hv hg hE hcap qM qR
  go_enter Tryd.func81, Tryd.ntmps81
  go_upto_region 1 with fail
  rw [HW0.out]
  go_wp2_with (refine wpList_load_row rfl 113 _ rfl w.heap.size rfl 113 M (0, 0) _ HMx.out Tryd.underlying113 rfl HI.out ?_)
  refine (CAl.out _ (HV0.out _ (Below.refl _ _))).mono ?_
  rintro e w2 ⟨rfl, hb2⟩
  have HRp := Lib.hid (HR0.out w2 hb2)
  have HBp := Lib.hid (HB0.out.trans (hb2.mono HB0.out.size))
  clear hb2
  go_wp2_with (refine wpList_store_row rfl 113 _ _ rfl (w.heap.size + 1 + 1) NX rfl rfl 113 zerosP HRp.out HI4.out HI5.out HI6.out ?_)
  exact bodyPost_ret (results_cell1 (p := 4) (ty := 113) Tryd.results81 _ _ (w.heap.size + 1 + 1) 113 NX (0, 0) _ rfl (setRow_heap _ _ _ _ _ _ HRp.out) Tryd.underlying113 rfl HI4.out) rfl ⟨rfl, setRow_below HBp.out (by omega) _⟩

set_option maxHeartbeats 4000000 in
set_option maxRecDepth 100000 in
theorem shrunk_any (a b : Nat) (g : Nat → Nat) (v : Value) (xs : List (Int × Int)) (w : World) (hg : PlW g) (hv : SlS w v xs) (hcap : ∀ ao n c, v = .slice ao n c → n ≤ c) (hE : ElOk xs) :
    Calls Tryd.prog 80 #[.agg (pl a b g), .agg #[v]] w fun e w' => e = .returned (.agg (pl a b (shG2 g xs))) ∧ Below w.heap.size w w' := by
  obtain ⟨NX, hNX⟩ : ∃ P, pl a b (shG2 g xs) = P := ⟨_, rfl⟩
  have HI4 : Hid ((Tryd.prog.info? 113).map (·.size) = some NX.size) := by show _ = _; rw [← hNX]; exact infoPl
  have HI5 : Hid (zerosP.size = NX.size) := by show _ = _; rw [← hNX]; rfl
  have HI6 : Hid (NX.all (·.oneCell') = true) := by show _ = _; rw [← hNX]; exact pl_one _ _ _
  obtain ⟨M, hM⟩ : ∃ M, pl a b g = M := ⟨_, rfl⟩
  have HI : Hid ((Tryd.prog.info? 113).map (·.size) = some M.size) := by show _ = _; rw [← hM]; exact infoPl
  rw [hM, hNX]
  have CAl : Hid (∀ v2 W, SlS W v2 (elL (miF xs)) → (∀ a n c, v2 = .slice a n c → n ≤ c) → Calls Tryd.prog 135 #[.agg M, .agg #[v2], .func (.func 85) #[.int .i64 0] #[]] W fun e w' => e = .returned (.agg NX) ∧ Below W.heap.size W w') := fun v2 W h1 h2 => by
    rw [← hM, ← hNX]
    exact movedAll_any 0 a b g v2 _ W (by omega) hg h1 h2 hE.mir.1 hE.mir.2.1 hE.mir.2.2
  obtain ⟨W0, hW0⟩ : ∃ W0, ((w.alloc (.cells M 113)).alloc (.cells #[v] 46)).alloc (.cells #[.int .i64 0, .int .i64 0, .int .u32 0, .int .u32 0, .int .u32 0, .int .u32 0, .int .u32 0, .int .u32 0, .int .u32 0, .int .u32 0, .int .u32 0, .int .u32 0, .int .u32 0, .int .u32 0, .int .u32 0, .int .u32 0, .int .u32 0, .int .u32 0, .int .u32 0, .int .u32 0, .int .u32 0, .int .u32 0, .int .u32 0, .int .u32 0, .int .u32 0, .int .u32 0] 113) = W0 := ⟨_, rfl⟩
  have hz : zerosP = #[.int .i64 0, .int .i64 0, .int .u32 0, .int .u32 0, .int .u32 0, .int .u32 0, .int .u32 0, .int .u32 0, .int .u32 0, .int .u32 0, .int .u32 0, .int .u32 0, .int .u32 0, .int .u32 0, .int .u32 0, .int .u32 0, .int .u32 0, .int .u32 0, .int .u32 0, .int .u32 0, .int .u32 0, .int .u32 0, .int .u32 0, .int .u32 0, .int .u32 0, .int .u32 0] := rfl
  have hw0 : W0.heap.size = w.heap.size + 1 + 1 + 1 := by rw [← hW0]; simp
  have hb0 : Below w.heap.size w W0 := by rw [← hW0]; exact Joins.below_alloc3 _ _ _ _
  have hq0 : W0.heap[w.heap.size]? = some (.cells M 113 (0, 0)) := by
    rw [← hW0, Below.heap_alloc _ _ _ (by simp; omega), Below.heap_alloc _ _ _ (by simp)]; exact heap_alloc_last w _
  have he0 : W0.heap[w.heap.size + 1]? = some (.cells #[v] 46 (0, 0)) := by
    rw [← hW0, Below.heap_alloc _ _ _ (by simp)]
    exact heap_alloc2_new _ _ _
  have hr0 : W0.heap[w.heap.size + 1 + 1]? = some (.cells zerosP 113 (0, 0)) := by
    rw [← hW0, hz]
    have := heap_alloc_last ((w.alloc (.cells M 113)).alloc (.cells #[v] 46)) (.cells #[.int .i64 0, .int .i64 0, .int .u32 0, .int .u32 0, .int .u32 0, .int .u32 0, .int .u32 0, .int .u32 0, .int .u32 0, .int .u32 0, .int .u32 0, .int .u32 0, .int .u32 0, .int .u32 0, .int .u32 0, .int .u32 0, .int .u32 0, .int .u32 0, .int .u32 0, .int .u32 0, .int .u32 0, .int .u32 0, .int .u32 0, .int .u32 0, .int .u32 0, .int .u32 0] 113)
    simpa only [World.size_alloc] using this
  have HW0 := Lib.hid hW0
  have HB0 := Lib.hid hb0
  have HS0 : Hid (∀ W, Below W0.heap.size W0 W → W.heap[w.heap.size]? = some (.cells M 113 (0, 0))) := fun W hb => (hb.block _ (Array.getElem?_eq_some_iff.1 hq0).1).trans hq0
  have HE0 : Hid (∀ W, Below W0.heap.size W0 W → W.cell? ⟨w.heap.size + 1, 0, none⟩ = some v) := fun W hb => cell_kept hb (cell_of_one he0)
  have HR0 : Hid (∀ W, Below W0.heap.size W0 W → W.heap[w.heap.size + 1 + 1]? = some (.cells zerosP 113 (0, 0))) := fun W hb => (hb.block _ (Array.getElem?_eq_some_iff.1 hr0).1).trans hr0
  have HV0 : Hid (∀ W, Below W0.heap.size W0 W → SlS W v xs) := fun W hb => (hv.below hb0).below hb
  have CMi : Hid (∀ W, Below W0.heap.size W0 W → Calls Tryd.prog 83 #[.agg #[v]] W fun e w' => ∃ a2 n2 c2, e = .returned (.agg #[.slice a2 n2 c2]) ∧ (SlS w' (.slice a2 n2 c2) (elL (miF xs)) ∧ ∀ a n c, Value.slice a2 n2 c2 = .slice a n c → n ≤ c) ∧ Below W.heap.size W w') := fun W hb =>
    (mirrored_any v xs W (by have := hE.len; omega) (fun p hp => by have := hE.rng p hp; exact ⟨wfE (by omega) (by omega), wfE (by omega) (by omega)⟩) (HV0.out W hb)).mono fun e w' ⟨a2, n2, c2, he, hO, hb2⟩ => by
      refine ⟨a2, n2, c2, he, ⟨OwnS.sl hO, fun a n c h => ?_⟩, hb2⟩
      injection h with h1 h2 h3
      subst h2 h3
      rcases hO.2 with ⟨hq, h0⟩ | ⟨g2, cp, cur, hq, _, _, hle, _⟩
      · injection hq with q1 q2 q3
        omega
      · injection hq with q1 q2 q3
        omega
  have hmf : ∀ (fn : Fn) (first cap : Array Value) (w : World), (Instr.makeFunc fn first cap).run Tryd.prog w = .ok (.func fn first cap) w := fun _ _ _ _ => rfl
  clear hM hNX hW0 hz hw0 hb0 hq0 he0 hr0 hv hg hE hcap
  go_enter Tryd.func80, Tryd.ntmps80
  go_upto_region 1 with fail
  rw [HW0.out]
  refine wp_region_inv_at (by kernel_rfl) (fun A0 L A W => ∃ (b0 b1 b2 b3 b4 b5 : Bool) (v5 v6 v7 v8 v9 : Value), L = #[b0, b1, b2, b3, b4, b5] ∧ A = (((((A0.put (some 5) v5).put (some 6) v6).put (some 7) v7).put (some 8) v8).put (some 9) v9) ∧ (∃ Wp, Below W0.heap.size W0 Wp ∧ W = (if b5 = true then Wp.setRow (w.heap.size + 1 + 1) NX else Wp)) ∧ Hid (b0 = true → v5 = .agg M) ∧ Hid (b1 = true → v6 = .agg #[v]) ∧ Hid (b2 = true → b4 = false → ∃ a2 n2 c2, v7 = .agg #[.slice a2 n2 c2] ∧ (SlS W (.slice a2 n2 c2) (elL (miF xs)) ∧ ∀ a n c, Value.slice a2 n2 c2 = .slice a n c → n ≤ c)) ∧ Hid (b3 = true → v8 = .func (.func 85) #[.int .i64 0] #[]) ∧ Hid (b4 = true → v9 = .agg NX) ∧ Hid ((b0 = false → b5 = false) ∧ (b1 = false → b5 = false) ∧ (b2 = false → b5 = false) ∧ (b3 = false → b5 = false) ∧ (b4 = false → b5 = false))) ?_ ?_ ?_
  · intro A0
    refine ⟨false, false, false, false, false, false, A0.tmps.getD 5 undef, A0.tmps.getD 6 undef, A0.tmps.getD 7 undef, A0.tmps.getD 8 undef, A0.tmps.getD 9 undef, rfl, (by simp only [put_self]), ⟨_, (Below.refl _ _).drew, rfl⟩, Lib.hid (fun hf => by cases hf), Lib.hid (fun hf => by cases hf), Lib.hid (fun hf => by cases hf), Lib.hid (fun hf => by cases hf), Lib.hid (fun hf => by cases hf), Lib.hid ⟨fun _ => rfl, fun _ => rfl, fun _ => rfl, fun _ => rfl, fun _ => rfl⟩⟩
  · intro L A W hI i hi o ho K' hK
    have hlt := (ready_left hi).1
    have hun := (ready_left hi).2
    have haf := ready_after hi ho
    clear hi
    obtain ⟨b0, b1, b2, b3, b4, b5, v5, v6, v7, v8, v9, rfl, rfl, hB, h0, h1, h2, h3, h4, p⟩ := hI
    have hc : i = 0 ∨ i = 1 ∨ i = 2 ∨ i = 3 ∨ i = 4 ∨ i = 5 := by
      simp at hlt
      omega
    rcases hc with rfl | rfl | rfl | rfl | rfl | rfl
    all_goals (obtain rfl := Option.some.inj ho; clear ho; simp [Region.binds] at haf hun; (try simp only [List.getElem_toArray, List.getElem_cons_zero, List.getElem_cons_succ]); simp only [Act.put, List.setIfInBounds_toArray, List.set_cons_zero, List.set_cons_succ])
    · -- operation 0
      replace hK := Lib.hid hK
      have hlast : b5 = false := p.out.1 hun
      subst hlast
      obtain ⟨Wp, hB, hWp⟩ := hB
      have hWq : W = Wp := by simpa using hWp
      clear hWp
      subst hWq
      have qM := HS0.out W hB
      have qe := HE0.out W hB
      have qR := HR0.out W hB
      subst hun
      rw [if_pos (by simp [Region.wanted])]
      refine wp_load_row 113 _ rfl w.heap.size rfl 113 M (0, 0) _ qM Tryd.underlying113 rfl HI.out ?_
      exact hK.out _ _ ⟨true, b1, b2, b3, b4, false, .agg M, v6, v7, v8, v9, rfl, (by simp only [Act.put, List.setIfInBounds_toArray, List.set_cons_zero, List.set_cons_succ]), ⟨_, hB, rfl⟩, Lib.hid (fun _ => rfl), h1, h2, h3, h4, Lib.hid ⟨(fun hf => by cases hf), (fun _ => rfl), (fun _ => rfl), (fun _ => rfl), (fun _ => rfl)⟩⟩
    · -- operation 1
      replace hK := Lib.hid hK
      have hlast : b5 = false := p.out.2.1 hun
      subst hlast
      obtain ⟨Wp, hB, hWp⟩ := hB
      have hWq : W = Wp := by simpa using hWp
      clear hWp
      subst hWq
      have qM := HS0.out W hB
      have qe := HE0.out W hB
      have qR := HR0.out W hB
      subst hun
      go_simp
      exact hK.out _ _ ⟨b0, true, b2, b3, b4, false, v5, .agg #[v], v7, v8, v9, rfl, (by simp only [Act.put, List.setIfInBounds_toArray, List.set_cons_zero, List.set_cons_succ]), ⟨_, hB, rfl⟩, h0, Lib.hid (fun _ => rfl), h2, h3, h4, Lib.hid ⟨(fun _ => rfl), (fun hf => by cases hf), (fun _ => rfl), (fun _ => rfl), (fun _ => rfl)⟩⟩
    · -- operation 2
      replace hK := Lib.hid hK
      have hlast : b5 = false := p.out.2.2.1 hun
      subst hlast
      obtain ⟨Wp, hB, hWp⟩ := hB
      have hWq : W = Wp := by simpa using hWp
      clear hWp
      subst hWq
      have qM := HS0.out W hB
      have qe := HE0.out W hB
      have qR := HR0.out W hB
      obtain rfl := h1.out (by simp only [haf])
      subst hun
      go_simp
      refine (CMi.out _ hB).mono ?_
      rintro e W' ⟨a2, n2, c2, rfl, hf, hb⟩
      have hkept := fun kb (hk : kb < W.heap.size) => hb.block kb hk
      exact hK.out _ _ ⟨b0, b1, true, b3, b4, false, v5, .agg #[v], .agg #[.slice a2 n2 c2], v8, v9, rfl, (by simp only [Act.put, List.setIfInBounds_toArray, List.set_cons_zero, List.set_cons_succ]), ⟨_, hB.trans (hb.mono hB.size), rfl⟩, h0, Lib.hid (fun _ => rfl), Lib.hid (fun _ _ => ⟨a2, n2, c2, rfl, hf⟩), h3, h4, Lib.hid ⟨(fun _ => rfl), (fun _ => rfl), (fun hf => by cases hf), (fun _ => rfl), (fun _ => rfl)⟩⟩
    · -- operation 3
      replace hK := Lib.hid hK
      have hlast : b5 = false := p.out.2.2.2.1 hun
      subst hlast
      obtain ⟨Wp, hB, hWp⟩ := hB
      have hWq : W = Wp := by simpa using hWp
      clear hWp
      subst hWq
      have qM := HS0.out W hB
      have qe := HE0.out W hB
      have qR := HR0.out W hB
      subst hun
      go_simp
      exact hK.out _ _ ⟨b0, b1, b2, true, b4, false, v5, v6, v7, .func (.func 85) #[.int .i64 0] #[], v9, rfl, (by simp only [Act.put, List.setIfInBounds_toArray, List.set_cons_zero, List.set_cons_succ]), ⟨_, hB, rfl⟩, h0, h1, h2, Lib.hid (fun _ => rfl), h4, Lib.hid ⟨(fun _ => rfl), (fun _ => rfl), (fun _ => rfl), (fun hf => by cases hf), (fun _ => rfl)⟩⟩
    · -- operation 4
      replace hK := Lib.hid hK
      have hlast : b5 = false := p.out.2.2.2.2 hun
      subst hlast
      obtain ⟨Wp, hB, hWp⟩ := hB
      have hWq : W = Wp := by simpa using hWp
      clear hWp
      subst hWq
      have qM := HS0.out W hB
      have qe := HE0.out W hB
      have qR := HR0.out W hB
      obtain rfl := h0.out (by simp only [haf])
      obtain ⟨a2, n2, c2, rfl, hf2⟩ := h2.out (by simp only [haf]) (by first | exact hun | simp only [haf])
      obtain rfl := h3.out (by simp only [haf])
      subst hun
      go_simp
      refine (CAl.out _ _ hf2.1 hf2.2).mono ?_
      rintro e W' ⟨rfl, hb⟩
      have hkept := fun kb (hk : kb < W.heap.size) => hb.block kb hk
      exact hK.out _ _ ⟨b0, b1, b2, b3, true, false, .agg M, v6, .agg #[.slice a2 n2 c2], .func (.func 85) #[.int .i64 0] #[], .agg NX, rfl, (by simp only [Act.put, List.setIfInBounds_toArray, List.set_cons_zero, List.set_cons_succ]), ⟨_, hB.trans (hb.mono hB.size), rfl⟩, Lib.hid (fun _ => rfl), h1, Lib.hid (fun _ hu => by cases hu), Lib.hid (fun _ => rfl), Lib.hid (fun _ => rfl), Lib.hid ⟨(fun _ => rfl), (fun _ => rfl), (fun _ => rfl), (fun _ => rfl), (fun hf => by cases hf)⟩⟩
    · -- operation 5
      replace hK := Lib.hid hK
      subst hun
      obtain ⟨Wp, hB, hWp⟩ := hB
      have hWq : W = Wp := by simpa using hWp
      clear hWp
      subst hWq
      have qM := HS0.out W hB
      have qe := HE0.out W hB
      have qR := HR0.out W hB
      obtain rfl := h4.out (by simp only [haf])
      rw [if_pos (by simp [Region.wanted])]
      refine wp_store_row 113 _ _ rfl (w.heap.size + 1 + 1) NX rfl rfl 113 zerosP qR HI4.out HI5.out HI6.out ?_
      exact hK.out _ _ ⟨b0, b1, b2, b3, b4, true, v5, v6, v7, v8, .agg NX, rfl, (by simp only [Act.put, List.setIfInBounds_toArray, List.set_cons_zero, List.set_cons_succ]), ⟨_, hB, rfl⟩, h0, h1, Lib.hid (fun _ hu => absurd (show false = true from hu.symm.trans (by simp only [haf])) (by decide)), h3, Lib.hid (fun _ => rfl), Lib.hid ⟨(fun hf => absurd (show false = true from hf.symm.trans (by simp only [haf])) (by decide)), (fun hf => absurd (show false = true from hf.symm.trans (by simp only [haf])) (by decide)), (fun hf => absurd (show false = true from hf.symm.trans (by simp only [haf])) (by decide)), (fun hf => absurd (show false = true from hf.symm.trans (by simp only [haf])) (by decide)), (fun hf => absurd (show false = true from hf.symm.trans (by simp only [haf])) (by decide))⟩⟩
  intro L A W hI hr
  obtain ⟨b0, b1, b2, b3, b4, b5, v5, v6, v7, v8, v9, rfl, rfl, hB, h0, h1, h2, h3, h4, p⟩ := hI
  have d0 := ready_done hr 0 _ rfl (by simp [Region.binds])
  have d1 := ready_done hr 1 _ rfl (by simp [Region.binds])
  have d3 := ready_done hr 3 _ rfl (by simp [Region.binds])
  simp at d0 d1 d3
  subst d0 d1 d3
  have d2 := ready_done hr 2 _ rfl (by simp [Region.binds])
  simp at d2
  subst d2
  have d4 := ready_done hr 4 _ rfl (by simp [Region.binds])
  simp at d4
  subst d4
  have d5 := ready_done hr 5 _ rfl (by simp [Region.binds])
  simp at d5
  subst d5
  obtain rfl := h0.out rfl
  obtain rfl := h1.out rfl
  obtain rfl := h3.out rfl
  obtain rfl := h4.out rfl
  obtain ⟨Wp, hB, hWp⟩ := hB
  have hWq : W = Wp.setRow (w.heap.size + 1 + 1) NX := by simpa using hWp
  clear hWp
  subst hWq
  simp only [Act.put, List.setIfInBounds_toArray, List.set_cons_zero, List.set_cons_succ]
  clear hr h0 h1 h2 h3 h4 p
  have HRp := Lib.hid (HR0.out Wp hB)
  have HBp := Lib.hid (HB0.out.trans (hB.mono HB0.out.size))
  clear hB
  go_wp2
  exact bodyPost_ret (results_cell1 (p := 4) (ty := 113) Tryd.results80 _ _ (w.heap.size + 1 + 1) 113 NX (0, 0) _ rfl (setRow_heap _ _ _ _ _ _ HRp.out) Tryd.underlying113 rfl HI4.out) rfl ⟨rfl, setRow_below HBp.out (by omega) _⟩

set_option maxHeartbeats 4000000 in
set_option maxRecDepth 100000 in
theorem opened_any (a b : Nat) (g : Nat → Nat) (v : Value) (xs : List (Int × Int)) (w : World) (hg : PlW g) (hv : SlS w v xs) (hcap : ∀ ao n c, v = .slice ao n c → n ≤ c) (hE : ElOk xs) :
    Calls Tryd.prog 103 #[.agg (pl a b g), .agg #[v]] w fun e w' => e = .returned (.agg (pl a b (opG g xs))) ∧ Below w.heap.size w w' := by
  have hgr := mvA_plw 1 g xs
  have hsr := mvA_plw 0 g (elL (miF xs))
  obtain ⟨NX, hNX⟩ : ∃ P, pl a b (opG g xs) = P := ⟨_, rfl⟩
  have HI4 : Hid ((Tryd.prog.info? 113).map (·.size) = some NX.size) := by show _ = _; rw [← hNX]; exact infoPl
  have HI5 : Hid (zerosP.size = NX.size) := by show _ = _; rw [← hNX]; rfl
  have HI6 : Hid (NX.all (·.oneCell') = true) := by show _ = _; rw [← hNX]; exact pl_one _ _ _
  obtain ⟨M, hM⟩ : ∃ M, pl a b g = M := ⟨_, rfl⟩
  have HI : Hid ((Tryd.prog.info? 113).map (·.size) = some M.size) := by show _ = _; rw [← hM]; exact infoPl
  rw [hM, hNX]
  obtain ⟨P1, hP1⟩ : ∃ P, pl a b (shG2 g xs) = P := ⟨_, rfl⟩
  obtain ⟨W0, hW0⟩ : ∃ W0, ((w.alloc (.cells M 113)).alloc (.cells #[v] 46)).alloc (.cells #[.int .i64 0, .int .i64 0, .int .u32 0, .int .u32 0, .int .u32 0, .int .u32 0, .int .u32 0, .int .u32 0, .int .u32 0, .int .u32 0, .int .u32 0, .int .u32 0, .int .u32 0, .int .u32 0, .int .u32 0, .int .u32 0, .int .u32 0, .int .u32 0, .int .u32 0, .int .u32 0, .int .u32 0, .int .u32 0, .int .u32 0, .int .u32 0, .int .u32 0, .int .u32 0] 113) = W0 := ⟨_, rfl⟩
  have hz : zerosP = #[.int .i64 0, .int .i64 0, .int .u32 0, .int .u32 0, .int .u32 0, .int .u32 0, .int .u32 0, .int .u32 0, .int .u32 0, .int .u32 0, .int .u32 0, .int .u32 0, .int .u32 0, .int .u32 0, .int .u32 0, .int .u32 0, .int .u32 0, .int .u32 0, .int .u32 0, .int .u32 0, .int .u32 0, .int .u32 0, .int .u32 0, .int .u32 0, .int .u32 0, .int .u32 0] := rfl
  have hw0 : W0.heap.size = w.heap.size + 1 + 1 + 1 := by rw [← hW0]; simp
  have hb0 : Below w.heap.size w W0 := by rw [← hW0]; exact Joins.below_alloc3 _ _ _ _
  have hq0 : W0.heap[w.heap.size]? = some (.cells M 113 (0, 0)) := by
    rw [← hW0, Below.heap_alloc _ _ _ (by simp; omega), Below.heap_alloc _ _ _ (by simp)]; exact heap_alloc_last w _
  have he0 : W0.heap[w.heap.size + 1]? = some (.cells #[v] 46 (0, 0)) := by
    rw [← hW0, Below.heap_alloc _ _ _ (by simp)]
    exact heap_alloc2_new _ _ _
  have hr0 : W0.heap[w.heap.size + 1 + 1]? = some (.cells zerosP 113 (0, 0)) := by
    rw [← hW0, hz]
    have := heap_alloc_last ((w.alloc (.cells M 113)).alloc (.cells #[v] 46)) (.cells #[.int .i64 0, .int .i64 0, .int .u32 0, .int .u32 0, .int .u32 0, .int .u32 0, .int .u32 0, .int .u32 0, .int .u32 0, .int .u32 0, .int .u32 0, .int .u32 0, .int .u32 0, .int .u32 0, .int .u32 0, .int .u32 0, .int .u32 0, .int .u32 0, .int .u32 0, .int .u32 0, .int .u32 0, .int .u32 0, .int .u32 0, .int .u32 0, .int .u32 0, .int .u32 0] 113)
    simpa only [World.size_alloc] using this
  have HW0 := Lib.hid hW0
  have HB0 := Lib.hid hb0
  have HS0 : Hid (∀ W, Below W0.heap.size W0 W → W.heap[w.heap.size]? = some (.cells M 113 (0, 0))) := fun W hb => (hb.block _ (Array.getElem?_eq_some_iff.1 hq0).1).trans hq0
  have HE0 : Hid (∀ W, Below W0.heap.size W0 W → W.cell? ⟨w.heap.size + 1, 0, none⟩ = some v) := fun W hb => cell_kept hb (cell_of_one he0)
  have HR0 : Hid (∀ W, Below W0.heap.size W0 W → W.heap[w.heap.size + 1 + 1]? = some (.cells zerosP 113 (0, 0))) := fun W hb => (hb.block _ (Array.getElem?_eq_some_iff.1 hr0).1).trans hr0
  have HV0 : Hid (∀ W, Below W0.heap.size W0 W → SlS W v xs) := fun W hb => (hv.below hb0).below hb
  have C1 : Hid (∀ W, Below W0.heap.size W0 W → Calls Tryd.prog 80 #[.agg M, .agg #[v]] W fun e w' => e = .returned (.agg P1) ∧ Below W.heap.size W w') := fun W hb => by
    rw [← hM, ← hP1]
    exact shrunk_any a b g v xs W hg (HV0.out W hb) hcap hE
  have C2 : Hid (∀ W, Below W0.heap.size W0 W → Calls Tryd.prog 81 #[.agg P1, .agg #[v]] W fun e w' => e = .returned (.agg NX) ∧ Below W.heap.size W w') := fun W hb => by
    rw [← hP1, ← hNX]
    exact grown_any a b _ v xs W (by first | exact hgr | exact hsr) (HV0.out W hb) hcap hE
  clear hP1 hgr hsr
  have hmf : ∀ (fn : Fn) (first cap : Array Value) (w : World), (Instr.makeFunc fn first cap).run Tryd.prog w = .ok (.func fn first cap) w := fun _ _ _ _ => rfl
  clear hM hNX hW0 hz hw0 hb0 hq0 he0 hr0 hv hg hE hcap
  go_enter Tryd.func103, Tryd.ntmps103
  go_upto_region 1 with fail
  rw [HW0.out]
  refine wp_region_inv_at (by kernel_rfl) (fun A0 L A W => ∃ (b0 b1 b2 b3 b4 b5 : Bool) (v5 v6 v7 v8 v9 : Value), L = #[b0, b1, b2, b3, b4, b5] ∧ A = (((((A0.put (some 5) v5).put (some 6) v6).put (some 7) v7).put (some 8) v8).put (some 9) v9) ∧ (∃ Wp, Below W0.heap.size W0 Wp ∧ W = (if b5 = true then Wp.setRow (w.heap.size + 1 + 1) NX else Wp)) ∧ Hid (b0 = true → v5 = .agg M) ∧ Hid (b1 = true → v6 = .agg #[v]) ∧ Hid (b2 = true → v7 = .agg P1) ∧ Hid (b3 = true → v8 = .agg #[v]) ∧ Hid (b4 = true → v9 = .agg NX) ∧ Hid ((b0 = false → b5 = false) ∧ (b1 = false → b5 = false) ∧ (b2 = false → b5 = false) ∧ (b3 = false → b5 = false) ∧ (b4 = false → b5 = false))) ?_ ?_ ?_
  · intro A0
    refine ⟨false, false, false, false, false, false, A0.tmps.getD 5 undef, A0.tmps.getD 6 undef, A0.tmps.getD 7 undef, A0.tmps.getD 8 undef, A0.tmps.getD 9 undef, rfl, (by simp only [put_self]), ⟨_, (Below.refl _ _).drew, rfl⟩, Lib.hid (fun hf => by cases hf), Lib.hid (fun hf => by cases hf), Lib.hid (fun hf => by cases hf), Lib.hid (fun hf => by cases hf), Lib.hid (fun hf => by cases hf), Lib.hid ⟨fun _ => rfl, fun _ => rfl, fun _ => rfl, fun _ => rfl, fun _ => rfl⟩⟩
  · intro L A W hI i hi o ho K' hK
    have hlt := (ready_left hi).1
    have hun := (ready_left hi).2
    have haf := ready_after hi ho
    clear hi
    obtain ⟨b0, b1, b2, b3, b4, b5, v5, v6, v7, v8, v9, rfl, rfl, hB, h0, h1, h2, h3, h4, p⟩ := hI
    have hc : i = 0 ∨ i = 1 ∨ i = 2 ∨ i = 3 ∨ i = 4 ∨ i = 5 := by
      simp at hlt
      omega
    rcases hc with rfl | rfl | rfl | rfl | rfl | rfl
    all_goals (obtain rfl := Option.some.inj ho; clear ho; simp [Region.binds] at haf hun; (try simp only [List.getElem_toArray, List.getElem_cons_zero, List.getElem_cons_succ]); simp only [Act.put, List.setIfInBounds_toArray, List.set_cons_zero, List.set_cons_succ])
    · -- operation 0
      replace hK := Lib.hid hK
      have hlast : b5 = false := p.out.1 hun
      subst hlast
      obtain ⟨Wp, hB, hWp⟩ := hB
      have hWq : W = Wp := by simpa using hWp
      clear hWp
      subst hWq
      have qM := HS0.out W hB
      have qe := HE0.out W hB
      have qR := HR0.out W hB
      subst hun
      rw [if_pos (by simp [Region.wanted])]
      refine wp_load_row 113 _ rfl w.heap.size rfl 113 M (0, 0) _ qM Tryd.underlying113 rfl HI.out ?_
      exact hK.out _ _ ⟨true, b1, b2, b3, b4, false, .agg M, v6, v7, v8, v9, rfl, (by simp only [Act.put, List.setIfInBounds_toArray, List.set_cons_zero, List.set_cons_succ]), ⟨_, hB, rfl⟩, Lib.hid (fun _ => rfl), h1, h2, h3, h4, Lib.hid ⟨(fun hf => by cases hf), (fun _ => rfl), (fun _ => rfl), (fun _ => rfl), (fun _ => rfl)⟩⟩
    · -- operation 1
      replace hK := Lib.hid hK
      have hlast : b5 = false := p.out.2.1 hun
      subst hlast
      obtain ⟨Wp, hB, hWp⟩ := hB
      have hWq : W = Wp := by simpa using hWp
      clear hWp
      subst hWq
      have qM := HS0.out W hB
      have qe := HE0.out W hB
      have qR := HR0.out W hB
      subst hun
      go_simp
      exact hK.out _ _ ⟨b0, true, b2, b3, b4, false, v5, .agg #[v], v7, v8, v9, rfl, (by simp only [Act.put, List.setIfInBounds_toArray, List.set_cons_zero, List.set_cons_succ]), ⟨_, hB, rfl⟩, h0, Lib.hid (fun _ => rfl), h2, h3, h4, Lib.hid ⟨(fun _ => rfl), (fun hf => by cases hf), (fun _ => rfl), (fun _ => rfl), (fun _ => rfl)⟩⟩
    · -- operation 2
      replace hK := Lib.hid hK
      have hlast : b5 = false := p.out.2.2.1 hun
      subst hlast
      obtain ⟨Wp, hB, hWp⟩ := hB
      have hWq : W = Wp := by simpa using hWp
      clear hWp
      subst hWq
      have qM := HS0.out W hB
      have qe := HE0.out W hB
      have qR := HR0.out W hB
      obtain rfl := h0.out (by simp only [haf])
      obtain rfl := h1.out (by simp only [haf])
      subst hun
      go_simp
      refine (C1.out _ hB).mono ?_
      rintro e W' ⟨rfl, hb⟩
      have hkept := fun kb (hk : kb < W.heap.size) => hb.block kb hk
      exact hK.out _ _ ⟨b0, b1, true, b3, b4, false, .agg M, .agg #[v], .agg P1, v8, v9, rfl, (by simp only [Act.put, List.setIfInBounds_toArray, List.set_cons_zero, List.set_cons_succ]), ⟨_, hB.trans (hb.mono hB.size), rfl⟩, Lib.hid (fun _ => rfl), Lib.hid (fun _ => rfl), Lib.hid (fun _ => rfl), h3, h4, Lib.hid ⟨(fun _ => rfl), (fun _ => rfl), (fun hf => by cases hf), (fun _ => rfl), (fun _ => rfl)⟩⟩
    · -- operation 3
      replace hK := Lib.hid hK
      have hlast : b5 = false := p.out.2.2.2.1 hun
      subst hlast
      obtain ⟨Wp, hB, hWp⟩ := hB
      have hWq : W = Wp := by simpa using hWp
      clear hWp
      subst hWq
      have qM := HS0.out W hB
      have qe := HE0.out W hB
      have qR := HR0.out W hB
      subst hun
      go_simp
      exact hK.out _ _ ⟨b0, b1, b2, true, b4, false, v5, v6, v7, .agg #[v], v9, rfl, (by simp only [Act.put, List.setIfInBounds_toArray, List.set_cons_zero, List.set_cons_succ]), ⟨_, hB, rfl⟩, h0, h1, h2, Lib.hid (fun _ => rfl), h4, Lib.hid ⟨(fun _ => rfl), (fun _ => rfl), (fun _ => rfl), (fun hf => by cases hf), (fun _ => rfl)⟩⟩
    · -- operation 4
      replace hK := Lib.hid hK
      have hlast : b5 = false := p.out.2.2.2.2 hun
      subst hlast
      obtain ⟨Wp, hB, hWp⟩ := hB
      have hWq : W = Wp := by simpa using hWp
      clear hWp
      subst hWq
      have qM := HS0.out W hB
      have qe := HE0.out W hB
      have qR := HR0.out W hB
      obtain rfl := h2.out (by simp only [haf])
      obtain rfl := h3.out (by simp only [haf])
      subst hun
      go_simp
      refine (C2.out _ hB).mono ?_
      rintro e W' ⟨rfl, hb⟩
      have hkept := fun kb (hk : kb < W.heap.size) => hb.block kb hk
      exact hK.out _ _ ⟨b0, b1, b2, b3, true, false, v5, v6, .agg P1, .agg #[v], .agg NX, rfl, (by simp only [Act.put, List.setIfInBounds_toArray, List.set_cons_zero, List.set_cons_succ]), ⟨_, hB.trans (hb.mono hB.size), rfl⟩, h0, h1, Lib.hid (fun _ => rfl), Lib.hid (fun _ => rfl), Lib.hid (fun _ => rfl), Lib.hid ⟨(fun _ => rfl), (fun _ => rfl), (fun _ => rfl), (fun _ => rfl), (fun hf => by cases hf)⟩⟩
    · -- operation 5
      replace hK := Lib.hid hK
      subst hun
      obtain ⟨Wp, hB, hWp⟩ := hB
      have hWq : W = Wp := by simpa using hWp
      clear hWp
      subst hWq
      have qM := HS0.out W hB
      have qe := HE0.out W hB
      have qR := HR0.out W hB
      obtain rfl := h4.out (by simp only [haf])
      rw [if_pos (by simp [Region.wanted])]
      refine wp_store_row 113 _ _ rfl (w.heap.size + 1 + 1) NX rfl rfl 113 zerosP qR HI4.out HI5.out HI6.out ?_
      exact hK.out _ _ ⟨b0, b1, b2, b3, b4, true, v5, v6, v7, v8, .agg NX, rfl, (by simp only [Act.put, List.setIfInBounds_toArray, List.set_cons_zero, List.set_cons_succ]), ⟨_, hB, rfl⟩, h0, h1, h2, h3, Lib.hid (fun _ => rfl), Lib.hid ⟨(fun hf => absurd (show false = true from hf.symm.trans (by simp only [haf])) (by decide)), (fun hf => absurd (show false = true from hf.symm.trans (by simp only [haf])) (by decide)), (fun hf => absurd (show false = true from hf.symm.trans (by simp only [haf])) (by decide)), (fun hf => absurd (show false = true from hf.symm.trans (by simp only [haf])) (by decide)), (fun hf => absurd (show false = true from hf.symm.trans (by simp only [haf])) (by decide))⟩⟩
  intro L A W hI hr
  obtain ⟨b0, b1, b2, b3, b4, b5, v5, v6, v7, v8, v9, rfl, rfl, hB, h0, h1, h2, h3, h4, p⟩ := hI
  have d0 := ready_done hr 0 _ rfl (by simp [Region.binds])
  have d1 := ready_done hr 1 _ rfl (by simp [Region.binds])
  have d3 := ready_done hr 3 _ rfl (by simp [Region.binds])
  simp at d0 d1 d3
  subst d0 d1 d3
  have d2 := ready_done hr 2 _ rfl (by simp [Region.binds])
  simp at d2
  subst d2
  have d4 := ready_done hr 4 _ rfl (by simp [Region.binds])
  simp at d4
  subst d4
  have d5 := ready_done hr 5 _ rfl (by simp [Region.binds])
  simp at d5
  subst d5
  obtain rfl := h0.out rfl
  obtain rfl := h1.out rfl
  obtain rfl := h2.out rfl
  obtain rfl := h3.out rfl
  obtain rfl := h4.out rfl
  obtain ⟨Wp, hB, hWp⟩ := hB
  have hWq : W = Wp.setRow (w.heap.size + 1 + 1) NX := by simpa using hWp
  clear hWp
  subst hWq
  simp only [Act.put, List.setIfInBounds_toArray, List.set_cons_zero, List.set_cons_succ]
  clear hr h0 h1 h2 h3 h4 p
  have HRp := Lib.hid (HR0.out Wp hB)
  have HBp := Lib.hid (HB0.out.trans (hB.mono HB0.out.size))
  clear hB
  go_wp2
  exact bodyPost_ret (results_cell1 (p := 4) (ty := 113) Tryd.results103 _ _ (w.heap.size + 1 + 1) 113 NX (0, 0) _ rfl (setRow_heap _ _ _ _ _ _ HRp.out) Tryd.underlying113 rfl HI4.out) rfl ⟨rfl, setRow_below HBp.out (by omega) _⟩

set_option maxHeartbeats 4000000 in
set_option maxRecDepth 100000 in
theorem closed_any (a b : Nat) (g : Nat → Nat) (v : Value) (xs : List (Int × Int)) (w : World) (hg : PlW g) (hv : SlS w v xs) (hcap : ∀ ao n c, v = .slice ao n c → n ≤ c) (hE : ElOk xs) :
    Calls Tryd.prog 104 #[.agg (pl a b g), .agg #[v]] w fun e w' => e = .returned (.agg (pl a b (clG g xs))) ∧ Below w.heap.size w w' := by
  have hgr := mvA_plw 1 g xs
  have hsr := mvA_plw 0 g (elL (miF xs))
  obtain ⟨NX, hNX⟩ : ∃ P, pl a b (clG g xs) = P := ⟨_, rfl⟩
  have HI4 : Hid ((Tryd.prog.info? 113).map (·.size) = some NX.size) := by show _ = _; rw [← hNX]; exact infoPl
  have HI5 : Hid (zerosP.size = NX.size) := by show _ = _; rw [← hNX]; rfl
  have HI6 : Hid (NX.all (·.oneCell') = true) := by show _ = _; rw [← hNX]; exact pl_one _ _ _
  obtain ⟨M, hM⟩ : ∃ M, pl a b g = M := ⟨_, rfl⟩
  have HI : Hid ((Tryd.prog.info? 113).map (·.size) = some M.size) := by show _ = _; rw [← hM]; exact infoPl
  rw [hM, hNX]
  obtain ⟨P1, hP1⟩ : ∃ P, pl a b (grG g xs) = P := ⟨_, rfl⟩
  obtain ⟨W0, hW0⟩ : ∃ W0, ((w.alloc (.cells M 113)).alloc (.cells #[v] 46)).alloc (.cells #[.int .i64 0, .int .i64 0, .int .u32 0, .int .u32 0, .int .u32 0, .int .u32 0, .int .u32 0, .int .u32 0, .int .u32 0, .int .u32 0, .int .u32 0, .int .u32 0, .int .u32 0, .int .u32 0, .int .u32 0, .int .u32 0, .int .u32 0, .int .u32 0, .int .u32 0, .int .u32 0, .int .u32 0, .int .u32 0, .int .u32 0, .int .u32 0, .int .u32 0, .int .u32 0] 113) = W0 := ⟨_, rfl⟩
  have hz : zerosP = #[.int .i64 0, .int .i64 0, .int .u32 0, .int .u32 0, .int .u32 0, .int .u32 0, .int .u32 0, .int .u32 0, .int .u32 0, .int .u32 0, .int .u32 0, .int .u32 0, .int .u32 0, .int .u32 0, .int .u32 0, .int .u32 0, .int .u32 0, .int .u32 0, .int .u32 0, .int .u32 0, .int .u32 0, .int .u32 0, .int .u32 0, .int .u32 0, .int .u32 0, .int .u32 0] := rfl
  have hw0 : W0.heap.size = w.heap.size + 1 + 1 + 1 := by rw [← hW0]; simp
  have hb0 : Below w.heap.size w W0 := by rw [← hW0]; exact Joins.below_alloc3 _ _ _ _
  have hq0 : W0.heap[w.heap.size]? = some (.cells M 113 (0, 0)) := by
    rw [← hW0, Below.heap_alloc _ _ _ (by simp; omega), Below.heap_alloc _ _ _ (by simp)]; exact heap_alloc_last w _
  have he0 : W0.heap[w.heap.size + 1]? = some (.cells #[v] 46 (0, 0)) := by
    rw [← hW0, Below.heap_alloc _ _ _ (by simp)]
    exact heap_alloc2_new _ _ _
  have hr0 : W0.heap[w.heap.size + 1 + 1]? = some (.cells zerosP 113 (0, 0)) := by
    rw [← hW0, hz]
    have := heap_alloc_last ((w.alloc (.cells M 113)).alloc (.cells #[v] 46)) (.cells #[.int .i64 0, .int .i64 0, .int .u32 0, .int .u32 0, .int .u32 0, .int .u32 0, .int .u32 0, .int .u32 0, .int .u32 0, .int .u32 0, .int .u32 0, .int .u32 0, .int .u32 0, .int .u32 0, .int .u32 0, .int .u32 0, .int .u32 0, .int .u32 0, .int .u32 0, .int .u32 0, .int .u32 0, .int .u32 0, .int .u32 0, .int .u32 0, .int .u32 0, .int .u32 0] 113)
    simpa only [World.size_alloc] using this
  have HW0 := Lib.hid hW0
  have HB0 := Lib.hid hb0
  have HS0 : Hid (∀ W, Below W0.heap.size W0 W → W.heap[w.heap.size]? = some (.cells M 113 (0, 0))) := fun W hb => (hb.block _ (Array.getElem?_eq_some_iff.1 hq0).1).trans hq0
  have HE0 : Hid (∀ W, Below W0.heap.size W0 W → W.cell? ⟨w.heap.size + 1, 0, none⟩ = some v) := fun W hb => cell_kept hb (cell_of_one he0)
  have HR0 : Hid (∀ W, Below W0.heap.size W0 W → W.heap[w.heap.size + 1 + 1]? = some (.cells zerosP 113 (0, 0))) := fun W hb => (hb.block _ (Array.getElem?_eq_some_iff.1 hr0).1).trans hr0
  have HV0 : Hid (∀ W, Below W0.heap.size W0 W → SlS W v xs) := fun W hb => (hv.below hb0).below hb
  have C1 : Hid (∀ W, Below W0.heap.size W0 W → Calls Tryd.prog 81 #[.agg M, .agg #[v]] W fun e w' => e = .returned (.agg P1) ∧ Below W.heap.size W w') := fun W hb => by
    rw [← hM, ← hP1]
    exact grown_any a b g v xs W hg (HV0.out W hb) hcap hE
  have C2 : Hid (∀ W, Below W0.heap.size W0 W → Calls Tryd.prog 80 #[.agg P1, .agg #[v]] W fun e w' => e = .returned (.agg NX) ∧ Below W.heap.size W w') := fun W hb => by
    rw [← hP1, ← hNX]
    exact shrunk_any a b _ v xs W (by first | exact hgr | exact hsr) (HV0.out W hb) hcap hE
  clear hP1 hgr hsr
  have hmf : ∀ (fn : Fn) (first cap : Array Value) (w : World), (Instr.makeFunc fn first cap).run Tryd.prog w = .ok (.func fn first cap) w := fun _ _ _ _ => rfl
  clear hM hNX hW0 hz hw0 hb0 hq0 he0 hr0 hv hg hE hcap
  go_enter Tryd.func104, Tryd.ntmps104
  go_upto_region 1 with fail
  rw [HW0.out]
  refine wp_region_inv_at (by kernel_rfl) (fun A0 L A W => ∃ (b0 b1 b2 b3 b4 b5 : Bool) (v5 v6 v7 v8 v9 : Value), L = #[b0, b1, b2, b3, b4, b5] ∧ A = (((((A0.put (some 5) v5).put (some 6) v6).put (some 7) v7).put (some 8) v8).put (some 9) v9) ∧ (∃ Wp, Below W0.heap.size W0 Wp ∧ W = (if b5 = true then Wp.setRow (w.heap.size + 1 + 1) NX else Wp)) ∧ Hid (b0 = true → v5 = .agg M) ∧ Hid (b1 = true → v6 = .agg #[v]) ∧ Hid (b2 = true → v7 = .agg P1) ∧ Hid (b3 = true → v8 = .agg #[v]) ∧ Hid (b4 = true → v9 = .agg NX) ∧ Hid ((b0 = false → b5 = false) ∧ (b1 = false → b5 = false) ∧ (b2 = false → b5 = false) ∧ (b3 = false → b5 = false) ∧ (b4 = false → b5 = false))) ?_ ?_ ?_
  · intro A0
    refine ⟨false, false, false, false, false, false, A0.tmps.getD 5 undef, A0.tmps.getD 6 undef, A0.tmps.getD 7 undef, A0.tmps.getD 8 undef, A0.tmps.getD 9 undef, rfl, (by simp only [put_self]), ⟨_, (Below.refl _ _).drew, rfl⟩, Lib.hid (fun hf => by cases hf), Lib.hid (fun hf => by cases hf), Lib.hid (fun hf => by cases hf), Lib.hid (fun hf => by cases hf), Lib.hid (fun hf => by cases hf), Lib.hid ⟨fun _ => rfl, fun _ => rfl, fun _ => rfl, fun _ => rfl, fun _ => rfl⟩⟩
  · intro L A W hI i hi o ho K' hK
    have hlt := (ready_left hi).1
    have hun := (ready_left hi).2
    have haf := ready_after hi ho
    clear hi
    obtain ⟨b0, b1, b2, b3, b4, b5, v5, v6, v7, v8, v9, rfl, rfl, hB, h0, h1, h2, h3, h4, p⟩ := hI
    have hc : i = 0 ∨ i = 1 ∨ i = 2 ∨ i = 3 ∨ i = 4 ∨ i = 5 := by
      simp at hlt
      omega
    rcases hc with rfl | rfl | rfl | rfl | rfl | rfl
    all_goals (obtain rfl := Option.some.inj ho; clear ho; simp [Region.binds] at haf hun; (try simp only [List.getElem_toArray, List.getElem_cons_zero, List.getElem_cons_succ]); simp only [Act.put, List.setIfInBounds_toArray, List.set_cons_zero, List.set_cons_succ])
    · -- operation 0
      replace hK := Lib.hid hK
      have hlast : b5 = false := p.out.1 hun
      subst hlast
      obtain ⟨Wp, hB, hWp⟩ := hB
      have hWq : W = Wp := by simpa using hWp
      clear hWp
      subst hWq
      have qM := HS0.out W hB
      have qe := HE0.out W hB
      have qR := HR0.out W hB
      subst hun
      rw [if_pos (by simp [Region.wanted])]
      refine wp_load_row 113 _ rfl w.heap.size rfl 113 M (0, 0) _ qM Tryd.underlying113 rfl HI.out ?_
      exact hK.out _ _ ⟨true, b1, b2, b3, b4, false, .agg M, v6, v7, v8, v9, rfl, (by simp only [Act.put, List.setIfInBounds_toArray, List.set_cons_zero, List.set_cons_succ]), ⟨_, hB, rfl⟩, Lib.hid (fun _ => rfl), h1, h2, h3, h4, Lib.hid ⟨(fun hf => by cases hf), (fun _ => rfl), (fun _ => rfl), (fun _ => rfl), (fun _ => rfl)⟩⟩
    · -- operation 1
      replace hK := Lib.hid hK
      have hlast : b5 = false := p.out.2.1 hun
      subst hlast
      obtain ⟨Wp, hB, hWp⟩ := hB
      have hWq : W = Wp := by simpa using hWp
      clear hWp
      subst hWq
      have qM := HS0.out W hB
      have qe := HE0.out W hB
      have qR := HR0.out W hB
      subst hun
      go_simp
      exact hK.out _ _ ⟨b0, true, b2, b3, b4, false, v5, .agg #[v], v7, v8, v9, rfl, (by simp only [Act.put, List.setIfInBounds_toArray, List.set_cons_zero, List.set_cons_succ]), ⟨_, hB, rfl⟩, h0, Lib.hid (fun _ => rfl), h2, h3, h4, Lib.hid ⟨(fun _ => rfl), (fun hf => by cases hf), (fun _ => rfl), (fun _ => rfl), (fun _ => rfl)⟩⟩
    · -- operation 2
      replace hK := Lib.hid hK
      have hlast : b5 = false := p.out.2.2.1 hun
      subst hlast
      obtain ⟨Wp, hB, hWp⟩ := hB
      have hWq : W = Wp := by simpa using hWp
      clear hWp
      subst hWq
      have qM := HS0.out W hB
      have qe := HE0.out W hB
      have qR := HR0.out W hB
      obtain rfl := h0.out (by simp only [haf])
      obtain rfl := h1.out (by simp only [haf])
      subst hun
      go_simp
      refine (C1.out _ hB).mono ?_
      rintro e W' ⟨rfl, hb⟩
      have hkept := fun kb (hk : kb < W.heap.size) => hb.block kb hk
      exact hK.out _ _ ⟨b0, b1, true, b3, b4, false, .agg M, .agg #[v], .agg P1, v8, v9, rfl, (by simp only [Act.put, List.setIfInBounds_toArray, List.set_cons_zero, List.set_cons_succ]), ⟨_, hB.trans (hb.mono hB.size), rfl⟩, Lib.hid (fun _ => rfl), Lib.hid (fun _ => rfl), Lib.hid (fun _ => rfl), h3, h4, Lib.hid ⟨(fun _ => rfl), (fun _ => rfl), (fun hf => by cases hf), (fun _ => rfl), (fun _ => rfl)⟩⟩
    · -- operation 3
      replace hK := Lib.hid hK
      have hlast : b5 = false := p.out.2.2.2.1 hun
      subst hlast
      obtain ⟨Wp, hB, hWp⟩ := hB
      have hWq : W = Wp := by simpa using hWp
      clear hWp
      subst hWq
      have qM := HS0.out W hB
      have qe := HE0.out W hB
      have qR := HR0.out W hB
      subst hun
      go_simp
      exact hK.out _ _ ⟨b0, b1, b2, true, b4, false, v5, v6, v7, .agg #[v], v9, rfl, (by simp only [Act.put, List.setIfInBounds_toArray, List.set_cons_zero, List.set_cons_succ]), ⟨_, hB, rfl⟩, h0, h1, h2, Lib.hid (fun _ => rfl), h4, Lib.hid ⟨(fun _ => rfl), (fun _ => rfl), (fun _ => rfl), (fun hf => by cases hf), (fun _ => rfl)⟩⟩
    · -- operation 4
      replace hK := Lib.hid hK
      have hlast : b5 = false := p.out.2.2.2.2 hun
      subst hlast
      obtain ⟨Wp, hB, hWp⟩ := hB
      have hWq : W = Wp := by simpa using hWp
      clear hWp
      subst hWq
      have qM := HS0.out W hB
      have qe := HE0.out W hB
      have qR := HR0.out W hB
      obtain rfl := h2.out (by simp only [haf])
      obtain rfl := h3.out (by simp only [haf])
      subst hun
      go_simp
      refine (C2.out _ hB).mono ?_
      rintro e W' ⟨rfl, hb⟩
      have hkept := fun kb (hk : kb < W.heap.size) => hb.block kb hk
      exact hK.out _ _ ⟨b0, b1, b2, b3, true, false, v5, v6, .agg P1, .agg #[v], .agg NX, rfl, (by simp only [Act.put, List.setIfInBounds_toArray, List.set_cons_zero, List.set_cons_succ]), ⟨_, hB.trans (hb.mono hB.size), rfl⟩, h0, h1, Lib.hid (fun _ => rfl), Lib.hid (fun _ => rfl), Lib.hid (fun _ => rfl), Lib.hid ⟨(fun _ => rfl), (fun _ => rfl), (fun _ => rfl), (fun _ => rfl), (fun hf => by cases hf)⟩⟩
    · -- operation 5
      replace hK := Lib.hid hK
      subst hun
      obtain ⟨Wp, hB, hWp⟩ := hB
      have hWq : W = Wp := by simpa using hWp
      clear hWp
      subst hWq
      have qM := HS0.out W hB
      have qe := HE0.out W hB
      have qR := HR0.out W hB
      obtain rfl := h4.out (by simp only [haf])
      rw [if_pos (by simp [Region.wanted])]
      refine wp_store_row 113 _ _ rfl (w.heap.size + 1 + 1) NX rfl rfl 113 zerosP qR HI4.out HI5.out HI6.out ?_
      exact hK.out _ _ ⟨b0, b1, b2, b3, b4, true, v5, v6, v7, v8, .agg NX, rfl, (by simp only [Act.put, List.setIfInBounds_toArray, List.set_cons_zero, List.set_cons_succ]), ⟨_, hB, rfl⟩, h0, h1, h2, h3, Lib.hid (fun _ => rfl), Lib.hid ⟨(fun hf => absurd (show false = true from hf.symm.trans (by simp only [haf])) (by decide)), (fun hf => absurd (show false = true from hf.symm.trans (by simp only [haf])) (by decide)), (fun hf => absurd (show false = true from hf.symm.trans (by simp only [haf])) (by decide)), (fun hf => absurd (show false = true from hf.symm.trans (by simp only [haf])) (by decide)), (fun hf => absurd (show false = true from hf.symm.trans (by simp only [haf])) (by decide))⟩⟩
  intro L A W hI hr
  obtain ⟨b0, b1, b2, b3, b4, b5, v5, v6, v7, v8, v9, rfl, rfl, hB, h0, h1, h2, h3, h4, p⟩ := hI
  have d0 := ready_done hr 0 _ rfl (by simp [Region.binds])
  have d1 := ready_done hr 1 _ rfl (by simp [Region.binds])
  have d3 := ready_done hr 3 _ rfl (by simp [Region.binds])
  simp at d0 d1 d3
  subst d0 d1 d3
  have d2 := ready_done hr 2 _ rfl (by simp [Region.binds])
  simp at d2
  subst d2
  have d4 := ready_done hr 4 _ rfl (by simp [Region.binds])
  simp at d4
  subst d4
  have d5 := ready_done hr 5 _ rfl (by simp [Region.binds])
  simp at d5
  subst d5
  obtain rfl := h0.out rfl
  obtain rfl := h1.out rfl
  obtain rfl := h2.out rfl
  obtain rfl := h3.out rfl
  obtain rfl := h4.out rfl
  obtain ⟨Wp, hB, hWp⟩ := hB
  have hWq : W = Wp.setRow (w.heap.size + 1 + 1) NX := by simpa using hWp
  clear hWp
  subst hWq
  simp only [Act.put, List.setIfInBounds_toArray, List.set_cons_zero, List.set_cons_succ]
  clear hr h0 h1 h2 h3 h4 p
  have HRp := Lib.hid (HR0.out Wp hB)
  have HBp := Lib.hid (HB0.out.trans (hB.mono HB0.out.size))
  clear hB
  go_wp2
  exact bodyPost_ret (results_cell1 (p := 4) (ty := 113) Tryd.results104 _ _ (w.heap.size + 1 + 1) 113 NX (0, 0) _ rfl (setRow_heap _ _ _ _ _ _ HRp.out) Tryd.underlying113 rfl HI4.out) rfl ⟨rfl, setRow_below HBp.out (by omega) _⟩
end Go.Proofs.YtabkkpifkkgpeaaDoor
