/- Contracts of single functions, and plain lemmas, on which the exact laws of this seat rest; each holds under the conditions that it states. -/
import Derived.Test.YthblhibkbcmbaaaDoorRI
import Derived.Test.YthblhibkbcmbaaaDoorGL
import Derived.DeepKeys
import Derived.DeepKeys2
namespace Go.Proofs.YthblhibkbcmbaaaDoor
set_option linter.unusedVariables false
set_option linter.unusedSimpArgs false
open Go.RowKit
attribute [local go_sem] Oper.semAt_some

/-- a struct is built, as is known beforehand -/
theorem wp_build_as {P : Program} {o : Oper} {a : Act} {w : World} {K : Act → World → Prop} {Q : Exit → Act → World → Prop} (t : TypeId) (parts : Array (Nat × Operand)) (ho : o.op = .build t parts) (vals : List (Nat × Value)) (cells : Array Value)
    (hv : parts.toList.map (fun (i, x) => (i, a.eval x)) = vals) (hb : P.built t vals = some cells) (h : K (a.put o.dst (.agg cells)) w) : o.wp P a w K Q :=
  wp_build t parts ho (by rw [Array.toList_map, hv, hb]; rfl) (by rw [Array.toList_map, hv, hb]; exact h)
/-- the side of the square of an order -/
def sd (n : Int) : Int := 2 ^ n.toNat
theorem sd_wrap {n : Int} (h0 : 0 ≤ n) (h4 : n ≤ 4) : wrap64 (2 ^ n.toNat) = sd n := by
  have : n = 0 ∨ n = 1 ∨ n = 2 ∨ n = 3 ∨ n = 4 := by omega
  rcases this with rfl | rfl | rfl | rfl | rfl <;> decide +kernel
theorem sd_wrap2 {n : Int} (h0 : 0 ≤ n) (h4 : n ≤ 4) : IntKind.i64.wrap (2 ^ n.toNat) = sd n := by
  have : n = 0 ∨ n = 1 ∨ n = 2 ∨ n = 3 ∨ n = 4 := by omega
  rcases this with rfl | rfl | rfl | rfl | rfl <;> decide +kernel
theorem sd_le {n : Int} (h0 : 0 ≤ n) (h4 : n ≤ 4) : 1 ≤ sd n ∧ sd n ≤ 16 := by
  have : n = 0 ∨ n = 1 ∨ n = 2 ∨ n = 3 ∨ n = 4 := by omega
  rcases this with rfl | rfl | rfl | rfl | rfl <;> decide +kernel

theorem l08Side_any (n : Int) (w : World) (h0 : 0 ≤ n) (h4 : n ≤ 4) : Calls Tryd.prog 44 #[.int .i64 n] w (fun e w' => e = .returned (.int .i64 (sd n)) ∧ w = w') := by
  have HW := Lib.hid (sd_wrap h0 h4)
  obtain ⟨d, hd⟩ : ∃ d, sd n = d := ⟨_, rfl⟩
  rw [hd] at HW ⊢
  clear hd
  go_enter Tryd.func44, Tryd.ntmps44
  go_wp2
  go_ret
  exact ⟨ret_int HW.out, rfl⟩
theorem isOrder_any (n : Int) (w : World) : Calls Tryd.prog 61 #[.int .i64 n] w (fun e w' => e = .returned (.bool (inB n 0 4)) ∧ w = w') := by
  by_cases h1 : 0 ≤ n
  · have e : Hid (inB n 0 4 = decide (n ≤ 4)) := by show inB n 0 4 = _; unfold inB; rw [decide_eq_true h1]; simp
    go_enter Tryd.func61, Tryd.ntmps61
    go_wp2
    go_ret
    exact ⟨ret_bool e.out.symm, rfl⟩
  · have e : Hid (inB n 0 4 = false) := by show inB n 0 4 = _; unfold inB; rw [decide_eq_false h1]; simp
    go_enter Tryd.func61, Tryd.ntmps61
    go_wp2
    go_ret
    exact ⟨ret_bool (a := false) e.out.symm, rfl⟩

set_option maxHeartbeats 1000000 in
set_option maxRecDepth 100000 in
theorem squareOf_any (n : Int) (w : World) (hn0 : 0 ≤ n) (hn4 : n ≤ 4) : Calls Tryd.prog 79 #[.int .i64 n] w (fun e w' => e = .returned (.agg (mcells (sd n) (sd n) (fun _ => 0))) ∧ Below w.heap.size w w') := by
  have HSd := Lib.hid (sd_wrap hn0 hn4)
  have HSw := Lib.hid (sd_wrap2 hn0 hn4)
  obtain ⟨d, hd⟩ : ∃ d, sd n = d := ⟨_, rfl⟩
  rw [hd] at HSd HSw ⊢
  have HBl := Lib.hid (built_m2 d d)
  have HI4 : Hid ((Tryd.prog.info? 59).map (·.size) = some (mcells d d (fun _ => 0)).size) := infoM
  have HI5 : Hid (zeros.size = (mcells d d (fun _ => 0)).size) := rfl
  have HI6 : Hid ((mcells d d (fun _ => 0)).all (·.oneCell') = true) := mcells_one d d (fun _ => 0)
  obtain ⟨C0, hC0⟩ : ∃ C, mcells d d (fun _ => 0) = C := ⟨_, rfl⟩
  rw [hC0] at HBl HI4 HI5 HI6 ⊢
  obtain ⟨W0, hW0⟩ : ∃ W0, w.alloc (.cells #[.int .i64 0, .int .i64 0, .int .u32 0, .int .u32 0, .int .u32 0, .int .u32 0, .int .u32 0, .int .u32 0, .int .u32 0, .int .u32 0, .int .u32 0, .int .u32 0, .int .u32 0, .int .u32 0, .int .u32 0, .int .u32 0, .int .u32 0, .int .u32 0] 59) = W0 := ⟨_, rfl⟩
  have hz : zeros = #[.int .i64 0, .int .i64 0, .int .u32 0, .int .u32 0, .int .u32 0, .int .u32 0, .int .u32 0, .int .u32 0, .int .u32 0, .int .u32 0, .int .u32 0, .int .u32 0, .int .u32 0, .int .u32 0, .int .u32 0, .int .u32 0, .int .u32 0, .int .u32 0] := rfl
  have hb0 : Below w.heap.size w W0 := by rw [← hW0]; exact Joins.below_alloc1 _ _
  have hr0 : W0.heap[w.heap.size]? = some (.cells zeros 59 (0, 0)) := by rw [← hW0, hz]; exact heap_alloc_last w _
  have HW0 := Lib.hid hW0
  have HB0 := Lib.hid hb0
  have KR : Hid (∀ W, Below W0.heap.size W0 W → W.heap[w.heap.size]? = some (.cells zeros 59 (0, 0))) := fun W hb => (hb.block _ (Array.getElem?_eq_some_iff.1 hr0).1).trans hr0
  clear hW0 hz hr0 hb0 hC0 hd
  go_enter Tryd.func79, Tryd.ntmps79
  go_upto_region 1 with fail
  rw [HW0.out]
  refine wp_region_inv_at (by kernel_rfl) (fun A0 L A W => ∃ (b0 b1 b2 b3 b4 b5 : Bool) (v3 v4 v5 v6 v7 : Value), L = #[b0, b1, b2, b3, b4, b5] ∧ A = (((((A0.put (some 3) v3).put (some 4) v4).put (some 5) v5).put (some 6) v6).put (some 7) v7) ∧ (∃ Wp, Below W0.heap.size W0 Wp ∧ W = (if b5 = true then Wp.setRow w.heap.size C0 else Wp)) ∧ Hid (b0 = true → v3 = .int .i64 n) ∧ Hid (b1 = true → v4 = .int .i64 d) ∧ Hid (b2 = true → v5 = .int .i64 n) ∧ Hid (b3 = true → v6 = .int .i64 d) ∧ Hid (b4 = true → v7 = .agg C0) ∧ Hid ((b0 = false → b5 = false) ∧ (b1 = false → b5 = false) ∧ (b2 = false → b5 = false) ∧ (b3 = false → b5 = false) ∧ (b4 = false → b5 = false))) ?_ ?_ ?_
  · intro A0
    refine ⟨false, false, false, false, false, false, A0.tmps.getD 3 undef, A0.tmps.getD 4 undef, A0.tmps.getD 5 undef, A0.tmps.getD 6 undef, A0.tmps.getD 7 undef, rfl, (by simp only [put_self]), ⟨_, (Below.refl _ _).drew, rfl⟩, Lib.hid (fun hf => by cases hf), Lib.hid (fun hf => by cases hf), Lib.hid (fun hf => by cases hf), Lib.hid (fun hf => by cases hf), Lib.hid (fun hf => by cases hf), Lib.hid ⟨fun _ => rfl, fun _ => rfl, fun _ => rfl, fun _ => rfl, fun _ => rfl⟩⟩
  · intro L A W hI i hi o ho K' hK
    have hlt := (ready_left hi).1
    have hun := (ready_left hi).2
    have haf := ready_after hi ho
    clear hi
    obtain ⟨b0, b1, b2, b3, b4, b5, v3, v4, v5, v6, v7, rfl, rfl, hB, h0, h1, h2, h3, h4, p⟩ := hI
    have hc : i = 0 ∨ i = 1 ∨ i = 2 ∨ i = 3 ∨ i = 4 ∨ i = 5 := by
      simp at hlt
      omega
    rcases hc with rfl | rfl | rfl | rfl | rfl | rfl
    all_goals (obtain rfl := Option.some.inj ho; clear ho; simp [Region.binds] at haf hun; (try simp only [List.getElem_toArray, List.getElem_cons_zero, List.getElem_cons_succ]); simp only [Act.put, List.setIfInBounds_toArray, List.set_cons_zero, List.set_cons_succ])
    · -- operation 0
      replace hK := Lib.hid hK
      have hlast : b5 = false := p.out.1 hun
      subst hlast
      obtain ⟨Wp, hB, hWp⟩ := hB
      have hWq : W = Wp := by simpa using hWp
      clear hWp
      subst hWq
      have qR := KR.out W hB
      subst hun
      go_simp
      exact hK.out _ _ ⟨true, b1, b2, b3, b4, false, .int .i64 n, v4, v5, v6, v7, rfl, (by simp only [Act.put, List.setIfInBounds_toArray, List.set_cons_zero, List.set_cons_succ]), ⟨_, hB, rfl⟩, Lib.hid (fun _ => rfl), h1, h2, h3, h4, Lib.hid ⟨(fun hf => by cases hf), (fun _ => rfl), (fun _ => rfl), (fun _ => rfl), (fun _ => rfl)⟩⟩
    · -- operation 1
      replace hK := Lib.hid hK
      have hlast : b5 = false := p.out.2.1 hun
      subst hlast
      obtain ⟨Wp, hB, hWp⟩ := hB
      have hWq : W = Wp := by simpa using hWp
      clear hWp
      subst hWq
      have qR := KR.out W hB
      obtain rfl := h0.out (by simp only [haf])
      subst hun
      go_simp
      simp only [HSw.out]
      exact hK.out _ _ ⟨b0, true, b2, b3, b4, false, .int .i64 n, .int .i64 d, v5, v6, v7, rfl, (by simp only [Act.put, List.setIfInBounds_toArray, List.set_cons_zero, List.set_cons_succ]), ⟨_, hB, rfl⟩, Lib.hid (fun _ => rfl), Lib.hid (fun _ => rfl), h2, h3, h4, Lib.hid ⟨(fun _ => rfl), (fun hf => by cases hf), (fun _ => rfl), (fun _ => rfl), (fun _ => rfl)⟩⟩
    · -- operation 2
      replace hK := Lib.hid hK
      have hlast : b5 = false := p.out.2.2.1 hun
      subst hlast
      obtain ⟨Wp, hB, hWp⟩ := hB
      have hWq : W = Wp := by simpa using hWp
      clear hWp
      subst hWq
      have qR := KR.out W hB
      subst hun
      go_simp
      exact hK.out _ _ ⟨b0, b1, true, b3, b4, false, v3, v4, .int .i64 n, v6, v7, rfl, (by simp only [Act.put, List.setIfInBounds_toArray, List.set_cons_zero, List.set_cons_succ]), ⟨_, hB, rfl⟩, h0, h1, Lib.hid (fun _ => rfl), h3, h4, Lib.hid ⟨(fun _ => rfl), (fun _ => rfl), (fun hf => by cases hf), (fun _ => rfl), (fun _ => rfl)⟩⟩
    · -- operation 3
      replace hK := Lib.hid hK
      have hlast : b5 = false := p.out.2.2.2.1 hun
      subst hlast
      obtain ⟨Wp, hB, hWp⟩ := hB
      have hWq : W = Wp := by simpa using hWp
      clear hWp
      subst hWq
      have qR := KR.out W hB
      obtain rfl := h2.out (by simp only [haf])
      subst hun
      go_simp
      simp only [HSw.out]
      exact hK.out _ _ ⟨b0, b1, b2, true, b4, false, v3, v4, .int .i64 n, .int .i64 d, v7, rfl, (by simp only [Act.put, List.setIfInBounds_toArray, List.set_cons_zero, List.set_cons_succ]), ⟨_, hB, rfl⟩, h0, h1, Lib.hid (fun _ => rfl), Lib.hid (fun _ => rfl), h4, Lib.hid ⟨(fun _ => rfl), (fun _ => rfl), (fun _ => rfl), (fun hf => by cases hf), (fun _ => rfl)⟩⟩
    · -- operation 4
      replace hK := Lib.hid hK
      have hlast : b5 = false := p.out.2.2.2.2 hun
      subst hlast
      obtain ⟨Wp, hB, hWp⟩ := hB
      have hWq : W = Wp := by simpa using hWp
      clear hWp
      subst hWq
      have qR := KR.out W hB
      obtain rfl := h1.out (by simp only [haf])
      obtain rfl := h3.out (by simp only [haf])
      subst hun
      rw [if_pos (by simp [Region.wanted])]
      refine wp_build_as 59 _ rfl [(0, .int .i64 d), (1, .int .i64 d)] C0 rfl HBl.out ?_
      exact hK.out _ _ ⟨b0, b1, b2, b3, true, false, v3, .int .i64 d, v5, .int .i64 d, .agg C0, rfl, (by simp only [Act.put, List.setIfInBounds_toArray, List.set_cons_zero, List.set_cons_succ]), ⟨_, hB, rfl⟩, h0, Lib.hid (fun _ => rfl), h2, Lib.hid (fun _ => rfl), Lib.hid (fun _ => rfl), Lib.hid ⟨(fun _ => rfl), (fun _ => rfl), (fun _ => rfl), (fun _ => rfl), (fun hf => by cases hf)⟩⟩
    · -- operation 5
      replace hK := Lib.hid hK
      subst hun
      obtain ⟨Wp, hB, hWp⟩ := hB
      have hWq : W = Wp := by simpa using hWp
      clear hWp
      subst hWq
      have qR := KR.out W hB
      obtain rfl := h4.out (by simp only [haf])
      rw [if_pos (by simp [Region.wanted])]
      refine wp_store_row 59 _ _ rfl w.heap.size C0 rfl rfl 59 zeros qR HI4.out HI5.out HI6.out ?_
      exact hK.out _ _ ⟨b0, b1, b2, b3, b4, true, v3, v4, v5, v6, .agg C0, rfl, (by simp only [Act.put, List.setIfInBounds_toArray, List.set_cons_zero, List.set_cons_succ]), ⟨_, hB, rfl⟩, h0, h1, h2, h3, Lib.hid (fun _ => rfl), Lib.hid ⟨(fun hf => absurd (show false = true from hf.symm.trans (by simp only [haf])) (by decide)), (fun hf => absurd (show false = true from hf.symm.trans (by simp only [haf])) (by decide)), (fun hf => absurd (show false = true from hf.symm.trans (by simp only [haf])) (by decide)), (fun hf => absurd (show false = true from hf.symm.trans (by simp only [haf])) (by decide)), (fun hf => absurd (show false = true from hf.symm.trans (by simp only [haf])) (by decide))⟩⟩
  intro L A W hI hr
  obtain ⟨b0, b1, b2, b3, b4, b5, v3, v4, v5, v6, v7, rfl, rfl, hB, h0, h1, h2, h3, h4, p⟩ := hI
  have d0 := ready_done hr 0 _ rfl (by simp [Region.binds])
  have d2 := ready_done hr 2 _ rfl (by simp [Region.binds])
  simp at d0 d2
  subst d0 d2
  have d1 := ready_done hr 1 _ rfl (by simp [Region.binds])
  have d3 := ready_done hr 3 _ rfl (by simp [Region.binds])
  simp at d1 d3
  subst d1 d3
  have d4 := ready_done hr 4 _ rfl (by simp [Region.binds])
  simp at d4
  subst d4
  have d5 := ready_done hr 5 _ rfl (by simp [Region.binds])
  simp at d5
  subst d5
  obtain rfl := h0.out rfl
  obtain rfl := h1.out rfl
  obtain rfl := h2.out rfl
  obtain rfl := h3.out rfl
  obtain rfl := h4.out rfl
  obtain ⟨Wp, hB, hWp⟩ := hB
  have hWq : W = Wp.setRow w.heap.size C0 := by simpa using hWp
  clear hWp
  subst hWq
  simp only [Act.put, List.setIfInBounds_toArray, List.set_cons_zero, List.set_cons_succ]
  clear hr h0 h1 h2 h3 h4 p
  have qR := Lib.hid (KR.out Wp hB)
  have B1 := Lib.hid (HB0.out.trans (hB.mono HB0.out.size))
  clear hB
  go_wp2
  exact bodyPost_ret (results_cell1 (p := 2) (ty := 59) Tryd.results79 _ _ w.heap.size 59 C0 (0, 0) _ rfl (setRow_heap _ _ _ _ _ _ qR.out) Tryd.underlying59 rfl HI4.out) rfl ⟨rfl, setRow_below B1.out (Nat.le_refl _) _⟩
end Go.Proofs.YthblhibkbcmbaaaDoor

/- Contracts of single functions, and plain lemmas, on which the exact laws of this seat rest; each holds under the conditions that it states. -/
namespace Go.Proofs.YthblhibkbcmbaaaDoor
set_option linter.unusedVariables false
set_option linter.unusedSimpArgs false
open Go.RowKit
attribute [local go_sem] Oper.semAt_some

/-! ### the table of the quarters -/
def qvL : List Nat := [0, 0, 0, 1, 0, 0, 0, 1, 0, 1, 1, 0, 0, 0, 2, 0, 1, 1, 1, 1, 1, 1, 0, 3, 0, 0, 1, 1, 0, 2, 1, 1, 2, 0, 1, 4, 1, 1, 4, 0, 1, 3, 0, 0, 3, 1, 0, 1, 1, 1, 3, 1, 0, 4, 0, 0, 4, 0, 1, 2]
def qxN (m d : Nat) : Nat := qvL.getD (m * 12 + d * 3) 0
def qyN (m d : Nat) : Nat := qvL.getD (m * 12 + d * 3 + 1) 0
def qhN (m d : Nat) : Nat := qvL.getD (m * 12 + d * 3 + 2) 0
/-- how many quarters come before the one at a place -/
def dgN (m a b : Nat) : Nat := ((List.range 4).find? fun d => qxN m d == a && qyN m d == b).getD 0
def nxN (m a b : Nat) : Nat := qhN m (dgN m a b)
theorem dg_lt : ∀ m < 5, ∀ a < 2, ∀ b < 2, dgN m a b < 4 := by decide +kernel
theorem dg_at : ∀ m < 5, ∀ a < 2, ∀ b < 2, qxN m (dgN m a b) = a ∧ qyN m (dgN m a b) = b := by decide +kernel
theorem dg_before : ∀ m < 5, ∀ a < 2, ∀ b < 2, ∀ d < dgN m a b, ¬ (qxN m d = a ∧ qyN m d = b) := by decide +kernel
theorem nx_lt : ∀ m < 5, ∀ a < 2, ∀ b < 2, nxN m a b < 5 := by decide +kernel
theorem qx_lt : ∀ m < 5, ∀ d < 4, qxN m d < 2 ∧ qyN m d < 2 := by decide +kernel
/-- the table in its variable -/
def QvP (w : World) : Prop := (∀ j, j < 60 → w.cell? ⟨4, j, none⟩ = some (.int .i64 ((qvL.getD j 0 : Nat) : Int))) ∧ 4 < w.heap.size
theorem QvP.below {w w' : World} (h : QvP w) (hb : Below w.heap.size w w') : QvP w' :=
  ⟨fun j hj => (hb.cell (p := ⟨_, _, none⟩) h.2).trans (h.1 j hj), Nat.lt_of_lt_of_le h.2 hb.size⟩

/-! ### places compared -/
theorem kyP_some (x y : Nat) (hx : x < 2) (hy : y < 2) : (keyOf Tryd.prog 129 (.agg #[.int .i64 (x : Int), .int .i64 (y : Int)])).isSome = true := by
  rcases (by omega : x = 0 ∨ x = 1) with rfl | rfl <;> rcases (by omega : y = 0 ∨ y = 1) with rfl | rfl <;> kernel_rfl
set_option maxRecDepth 20000 in
/-- two places compared -/
theorem ne2 (x y a b : Nat) (hx : x < 2) (hy : y < 2) (ha : a < 2) (hb : b < 2) (w : World) : (binOp .neq 129 (.agg #[.int .i64 (x : Int), .int .i64 (y : Int)]) (.agg #[.int .i64 (a : Int), .int .i64 (b : Int)])).run Tryd.prog w = .ok (.bool (!decide (x = a ∧ y = b))) w := by
  obtain ⟨l1, h1⟩ := Option.isSome_iff_exists.1 (kyP_some x y hx hy)
  obtain ⟨l2, h2⟩ := Option.isSome_iff_exists.1 (kyP_some a b ha hb)
  obtain ⟨c, hc, hiff⟩ := run_equal_deep (P := Tryd.prog) w (m := 4) (by decide) (k := 129) (by kernel_rfl) (by rw [Tryd.underlying129]) h1 h2
  have e : c = decide (x = a ∧ y = b) := by
    rw [Bool.eq_iff_iff, hiff, decide_eq_true_eq]
    refine ⟨fun e => ?_, fun e => ?_⟩
    · have key : ∀ {x : Array Value} {l : Lit}, keyOf Tryd.prog 129 (.agg x) = some l → ∃ L, Tryd.prog.keyLits (Tryd.prog.types.size + 1) 129 x.toList = some L ∧ l = .string (keyBytes L) := by
        intro x l h
        unfold keyOf at h
        rw [Tryd.underlying129] at h
        simp only at h
        split at h
        · simp only [Option.map_eq_some_iff] at h
          obtain ⟨L, hl, rfl⟩ := h
          exact ⟨L, hl, rfl⟩
        · cases h
      obtain ⟨L1, k1, rfl⟩ := key h1
      obtain ⟨L2, k2, rfl⟩ := key h2
      have e2 : L1 = L2 := keyLits_inj k1 k2 (by simpa using e)
      have c1 := cells_of_lits (P := Tryd.prog) 4 129 (by kernel_rfl) _ _ _ k1
      have c2 := cells_of_lits (P := Tryd.prog) 4 129 (by kernel_rfl) _ _ _ k2
      rw [e2] at c1
      have h3 := c1.trans c2.symm
      simp at h3
      exact ⟨by omega, by omega⟩
    · rw [e.1, e.2] at h1
      rw [h1] at h2
      exact Option.some.inj h2
  rw [e] at hc
  simp [binOp, hc]

/-! ### the index of a spot, as the program finds it -/
def pb (x k : Nat) : Nat := x / 2 ^ k % 2
theorem pb_lt (x k : Nat) : pb x k < 2 := Nat.mod_lt _ (by omega)
theorem pb_eq : ∀ x < 16, ∀ k < 4, bits .and .i64 ((x : Nat) / 2 ^ k) 1 = ((pb x k : Nat) : Int) := by decide +kernel
def qF : Nat → Nat → Int → Nat → Nat → Int
  | 0, _, acc, _, _ => acc
  | b + 1, m, acc, x, y => qF b (nxN m (pb x b) (pb y b)) (bits .or .i64 (wrap64 (acc * 4)) ((dgN m (pb x b) (pb y b) : Nat) : Int)) x y
def rwI (n x y : Nat) : Int := bits .or .i64 (wrap64 ((y : Int) * 2 ^ n)) (x : Int)
def ixI (c n x y : Nat) : Int :=
  if c = 2 then qF n 0 0 x y else if c = 3 then qF n 1 0 x y else if c = 1 ∧ y % 2 = 1 then rwI n (2 ^ n - 1 - x) y else rwI n x y
/-! ### and as the specification does -/
def tnS : Nat → Nat → Nat → Nat
  | 0, _, _ => 0
  | n + 1, x, y => if x < 2 ^ n ∧ y < 2 ^ n then tnS n y x else if x < 2 ^ n then 2 ^ n * 2 ^ n + tnS n x (y - 2 ^ n) else if 2 ^ n ≤ y then 2 * (2 ^ n * 2 ^ n) + tnS n (x - 2 ^ n) (y - 2 ^ n) else 3 * (2 ^ n * 2 ^ n) + tnS n (2 ^ n - 1 - y) (2 * 2 ^ n - 1 - x)
theorem tnS_lt : ∀ n x y, tnS n x y < 2 ^ n * 2 ^ n
  | 0, _, _ => by simp [tnS]
  | n + 1, x, y => by
    have h := tnS_lt n
    have e : 2 ^ (n + 1) * 2 ^ (n + 1) = 4 * (2 ^ n * 2 ^ n) := by rw [Nat.pow_succ]; simp only [Nat.mul_comm, Nat.mul_left_comm]; omega
    rw [e]
    unfold tnS
    have h1 := h y x
    have h2 := h x (y - 2 ^ n)
    have h3 := h (x - 2 ^ n) (y - 2 ^ n)
    have h4 := h (2 ^ n - 1 - y) (2 * 2 ^ n - 1 - x)
    generalize 2 ^ n * 2 ^ n = p at *
    split
    · omega
    · split
      · omega
      · split <;> omega
def btS (x y : Nat) : Nat → Int
  | 0 => 0
  | k + 1 => bits .or .i64 (btS x y k) (bits .or .i64 (wrap64 (((pb x k : Nat) : Int) * 2 ^ (2 * k))) (wrap64 (((pb y k : Nat) : Int) * 2 ^ (2 * k + 1))))
def ixS (c n x y : Nat) : Int :=
  if c = 0 then (y : Int) * 2 ^ n + x else if c = 1 then (if y % 2 = 1 then (y : Int) * 2 ^ n + 2 ^ n - 1 - x else (y : Int) * 2 ^ n + x) else if c = 2 then btS x y n else ((tnS n x y : Nat) : Int)
set_option maxRecDepth 100000 in
theorem ixI_eq : ∀ c < 4, ∀ n < 5, ∀ x < 2 ^ n, ∀ y < 2 ^ n, ixI c n x y = ixS c n x y := by decide +kernel
set_option maxRecDepth 100000 in
theorem ixS_lt : ∀ c < 4, ∀ n < 5, ∀ x < 2 ^ n, ∀ y < 2 ^ n, 0 ≤ ixS c n x y ∧ ixS c n x y < 2 ^ n * 2 ^ n := by decide +kernel
end Go.Proofs.YthblhibkbcmbaaaDoor
