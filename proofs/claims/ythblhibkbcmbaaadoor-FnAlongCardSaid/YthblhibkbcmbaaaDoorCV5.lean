/- Contracts of single functions, and plain lemmas, on which the exact laws of this seat rest; each holds under the conditions that it states. -/
import Derived.Test.YthblhibkbcmbaaaDoorProg
import Derived.WalkKit
import Derived.NoCompiler
import Derived.RowKit
import Derived.Test.YthblhibkbcmbaaaDoorGL
import Derived.DeepKeys
import Derived.DeepKeys2
import Derived.BigQuiet
import Derived.Deep.QuietTactic
namespace Go.Proofs.YthblhibkbcmbaaaDoor
set_option linter.unusedVariables false
set_option linter.unusedSimpArgs false

/-! ### a region that draws its order, by what holds when some of its operations are done -/
def leftN (ops : Array Oper) (L : Array Bool) : Nat := ((List.range ops.size).filter fun i => !L.getD i true).length
theorem ready_left {md : Region.Mode} {ops : Array Oper} {L : Array Bool} {i : Nat} (h : i ∈ Region.ready md ops L) : i < ops.size ∧ L.getD i true = false := by
  unfold Region.ready at h
  rw [List.mem_filter, List.mem_range, Bool.and_eq_true] at h
  refine ⟨h.1, ?_⟩
  have := h.2.1
  cases hb : L.getD i true
  · rfl
  · rw [hb] at this; cases this
theorem filter_lt {α : Type} {f g : α → Bool} : ∀ {l : List α}, (∀ x ∈ l, f x = true → g x = true) → (∃ x ∈ l, g x = true ∧ f x = false) → (l.filter f).length < (l.filter g).length
  | [], _, h => by obtain ⟨x, hx, _⟩ := h; cases hx
  | y :: l, hs, h => by
    have hle : ∀ l : List α, (∀ x ∈ l, f x = true → g x = true) → (l.filter f).length ≤ (l.filter g).length := by
      intro l
      induction l with
      | nil => intro _; exact Nat.le_refl _
      | cons z l ih =>
        intro hz
        have h1 := ih (fun x hx => hz x (by simp [hx]))
        have h2 := hz z (by simp)
        rw [List.filter_cons, List.filter_cons]
        cases hf : f z with
        | true => rw [if_pos rfl, h2 hf, if_pos rfl, List.length_cons, List.length_cons]; omega
        | false =>
          rw [if_neg (by decide)]
          split
          · rw [List.length_cons]; omega
          · exact h1
    have hs' : ∀ x ∈ l, f x = true → g x = true := fun x hx => hs x (by simp [hx])
    obtain ⟨x, hx, hg, hf⟩ := h
    rw [List.filter_cons, List.filter_cons]
    rcases List.mem_cons.1 hx with rfl | hx
    · rw [hf, hg, if_neg (by decide), if_pos rfl, List.length_cons]
      have := hle l hs'
      omega
    · have ih := filter_lt hs' ⟨x, hx, hg, hf⟩
      have h2 := hs y (by simp)
      cases hf : f y with
      | true => rw [if_pos rfl, h2 hf, if_pos rfl, List.length_cons, List.length_cons]; omega
      | false =>
        rw [if_neg (by decide)]
        split
        · rw [List.length_cons]; omega
        · exact ih
theorem getD_set (L : Array Bool) (i j : Nat) : (L.setIfInBounds i true).getD j true = if j = i then true else L.getD j true := by
  simp only [Array.getD_eq_getD_getElem?, Array.getElem?_setIfInBounds]
  by_cases h : i = j
  · subst h
    rw [if_pos rfl, if_pos rfl]
    split
    · rfl
    · rename_i h; rfl
  · rw [if_neg h, if_neg (fun e => h e.symm)]
theorem left_set {ops : Array Oper} {L : Array Bool} {i : Nat} (h1 : i < ops.size) (h2 : L.getD i true = false) : leftN ops (L.setIfInBounds i true) < leftN ops L := by
  unfold leftN
  refine filter_lt (fun x hx hf => ?_) ⟨i, List.mem_range.2 h1, by rw [h2]; rfl, by rw [getD_set, if_pos rfl]; rfl⟩
  rw [getD_set] at hf
  split at hf
  · cases hf
  · exact hf
theorem wpAny_inv {P : Program} {ops : Array Oper} {Q : Exit → Act → World → Prop} {md : Region.Mode} (Inv : Array Bool → Act → World → Prop)
    (hs : ∀ L a w, Inv L a w → ∀ i ∈ Region.ready md ops L, wpOp P ops Q i (Inv (L.setIfInBounds i true)) a w)
    (hd : ∀ L a w, Inv L a w → Region.ready md ops L = [] → Q .normal a w) :
    ∀ fuel L a w, leftN ops L ≤ fuel → Inv L a w → wpAny P md ops Q fuel L a w
  | 0, L, a, w, hl, hI => by
    have hr : Region.ready md ops L = [] := by
      cases hr : Region.ready md ops L with
      | nil => rfl
      | cons i r =>
        have h := ready_left (md := md) (ops := ops) (L := L) (i := i) (by rw [hr]; simp)
        have := left_set h.1 h.2
        omega
    exact ⟨hr, hd L a w hI hr⟩
  | fuel + 1, L, a, w, hl, hI => ⟨hd L a w hI, fun i hi => by
      have h := ready_left hi
      have := left_set h.1 h.2
      exact wpOp_mono (fun a w hI' => wpAny_inv Inv hs hd fuel _ a w (by omega) hI') (hs L a w hI i hi)⟩
theorem wp_region_inv {P : Program} {ops : Array Oper} {Q : Exit → Act → World → Prop} {id : Nat} {a : Act} {w : World} (hm : P.follows .mixedOrders = true) (Inv : Array Bool → Act → World → Prop)
    (h0 : Inv (Array.replicate ops.size false) a w.drew)
    (hs : ∀ L a w, Inv L a w → ∀ i ∈ Region.ready .any ops L, ∀ o, ops[i]? = some o → ∀ K' : Act → World → Prop, (∀ a w, Inv (L.setIfInBounds i true) a w → K' a w) → if Region.wanted o (yielded ops a.tmps) = true then Oper.wp P o a w K' Q else K' (a.put o.dst undef) w)
    (hd : ∀ L a w, Inv L a w → Region.ready .any ops L = [] → Q .normal a w) : (Code.region id ops true).wp P Q a w := by
  refine wp_region_any hm (wpAny_inv Inv (fun L a w hI i hi => ?_) hd _ _ _ _ ?_ h0)
  · have hlt := (ready_left hi).1
    have ho : ops[i]? = some ops[i] := Array.getElem?_eq_getElem hlt
    exact wpOp_step ho (hs L a w hI i hi _ ho)
  · unfold leftN
    refine Nat.le_trans (List.length_filter_le _ _) ?_
    simp
/-- what an operation that may come up asks is done -/
theorem ready_after {md : Region.Mode} {ops : Array Oper} {L : Array Bool} {i : Nat} {o : Oper} (h : i ∈ Region.ready md ops L) (ho : ops[i]? = some o) :
    (o.after.all fun e => !Region.binds md e || L.getD e.on false) = true := by
  unfold Region.ready at h
  rw [List.mem_filter, Bool.and_eq_true] at h
  have := h.2.2
  rw [ho] at this
  exact this
/-- where nothing may come up any more, what could come up is done -/
theorem ready_done {md : Region.Mode} {ops : Array Oper} {L : Array Bool} (hr : Region.ready md ops L = []) (i : Nat) (o : Oper) (ho : ops[i]? = some o)
    (hd : (o.after.all fun e => !Region.binds md e || L.getD e.on false) = true) : L.getD i true = true := by
  cases hb : L.getD i true with
  | true => rfl
  | false =>
    have hm : i ∈ Region.ready md ops L := by
      unfold Region.ready
      rw [List.mem_filter, List.mem_range, Bool.and_eq_true]
      refine ⟨(Array.getElem?_eq_some_iff.1 ho).1, by rw [hb]; rfl, ?_⟩
      rw [ho]
      exact hd
    rw [hr] at hm
    cases hm
theorem set_self (xs : Array Value) (t : Nat) : xs.setIfInBounds t (xs.getD t undef) = xs := by
  apply Array.ext_getElem?
  intro i
  rw [Array.getElem?_setIfInBounds, Array.getD_eq_getD_getElem?]
  by_cases h : t = i
  · subst h
    rw [if_pos rfl]
    split
    · rename_i hl; rw [Array.getElem?_eq_getElem hl]; rfl
    · rename_i hl; rw [Array.getElem?_eq_none (by omega)]
  · rw [if_neg h]
theorem put_self (a : Act) (t : Tmp) : a.put (some t) (a.tmps.getD t undef) = a := by
  cases a
  show Act.mk _ _ = Act.mk _ _
  rw [set_self]
/-- the same, the first frame handed on -/
theorem wp_region_inv_at {P : Program} {ops : Array Oper} {Q : Exit → Act → World → Prop} {id : Nat} {a : Act} {w : World} (hm : P.follows .mixedOrders = true) (Inv : Act → Array Bool → Act → World → Prop)
    (h0 : ∀ A0, Inv A0 (Array.replicate ops.size false) A0 w.drew)
    (hs : ∀ L A W, Inv a L A W → ∀ i ∈ Region.ready .any ops L, ∀ o, ops[i]? = some o → ∀ K' : Act → World → Prop, (∀ A W, Inv a (L.setIfInBounds i true) A W → K' A W) → if Region.wanted o (yielded ops A.tmps) = true then Oper.wp P o A W K' Q else K' (A.put o.dst undef) W)
    (hd : ∀ L A W, Inv a L A W → Region.ready .any ops L = [] → Q .normal A W) : (Code.region id ops true).wp P Q a w :=
  wp_region_inv hm (Inv a) (h0 a) hs hd
end Go.Proofs.YthblhibkbcmbaaaDoor

/- Contracts of single functions, and plain lemmas, on which the exact laws of this seat rest; each holds under the conditions that it states. -/
namespace Go.Proofs.YthblhibkbcmbaaaDoor
set_option linter.unusedVariables false
set_option linter.unusedSimpArgs false
open Go.RowKit
attribute [local go_sem] Oper.semAt_some

/-- a struct is built, as is known beforehand -/
theorem wp_build_as {P : Program} {o : Oper} {a : Act} {w : World} {K : Act → World → Prop} {Q : Exit → Act → World → Prop} (t : TypeId) (parts : Array (Nat × Operand)) (ho : o.op = .build t parts) (vals : List (Nat × Value)) (cells : Array Value)
    (hv : parts.toList.map (fun (i, x) => (i, a.eval x)) = vals) (hb : P.built t vals = some cells) (h : K (a.put o.dst (.agg cells)) w) : o.wp P a w K Q :=
  wp_build t parts ho (by rw [Array.toList_map, hv, hb]; rfl) (by rw [Array.toList_map, hv, hb]; exact h)
/-- the side of the square of an order -/
def sd (n : Int) : Int := 2 ^ n.toNat
theorem sd_wrap {n : Int} (h0 : 0 ≤ n) (h4 : n ≤ 4) : wrap64 (2 ^ n.toNat) = sd n := by
  have : n = 0 ∨ n = 1 ∨ n = 2 ∨ n = 3 ∨ n = 4 := by omega
  rcases this with rfl | rfl | rfl | rfl | rfl <;> decide +kernel
theorem sd_wrap2 {n : Int} (h0 : 0 ≤ n) (h4 : n ≤ 4) : IntKind.i64.wrap (2 ^ n.toNat) = sd n := by
  have : n = 0 ∨ n = 1 ∨ n = 2 ∨ n = 3 ∨ n = 4 := by omega
  rcases this with rfl | rfl | rfl | rfl | rfl <;> decide +kernel
theorem sd_le {n : Int} (h0 : 0 ≤ n) (h4 : n ≤ 4) : 1 ≤ sd n ∧ sd n ≤ 16 := by
  have : n = 0 ∨ n = 1 ∨ n = 2 ∨ n = 3 ∨ n = 4 := by omega
  rcases this with rfl | rfl | rfl | rfl | rfl <;> decide +kernel

theorem l08Side_any (n : Int) (w : World) (h0 : 0 ≤ n) (h4 : n ≤ 4) : Calls Tryd.prog 44 #[.int .i64 n] w (fun e w' => e = .returned (.int .i64 (sd n)) ∧ w = w') := by
  have HW := Lib.hid (sd_wrap h0 h4)
  obtain ⟨d, hd⟩ : ∃ d, sd n = d := ⟨_, rfl⟩
  rw [hd] at HW ⊢
  clear hd
  go_enter Tryd.func44, Tryd.ntmps44
  go_wp2
  go_ret
  exact ⟨ret_int HW.out, rfl⟩
theorem isOrder_any (n : Int) (w : World) : Calls Tryd.prog 61 #[.int .i64 n] w (fun e w' => e = .returned (.bool (inB n 0 4)) ∧ w = w') := by
  by_cases h1 : 0 ≤ n
  · have e : Hid (inB n 0 4 = decide (n ≤ 4)) := by show inB n 0 4 = _; unfold inB; rw [decide_eq_true h1]; simp
    go_enter Tryd.func61, Tryd.ntmps61
    go_wp2
    go_ret
    exact ⟨ret_bool e.out.symm, rfl⟩
  · have e : Hid (inB n 0 4 = false) := by show inB n 0 4 = _; unfold inB; rw [decide_eq_false h1]; simp
    go_enter Tryd.func61, Tryd.ntmps61
    go_wp2
    go_ret
    exact ⟨ret_bool (a := false) e.out.symm, rfl⟩

set_option maxHeartbeats 1000000 in
set_option maxRecDepth 100000 in
theorem squareOf_any (n : Int) (w : World) (hn0 : 0 ≤ n) (hn4 : n ≤ 4) : Calls Tryd.prog 79 #[.int .i64 n] w (fun e w' => e = .returned (.agg (mcells (sd n) (sd n) (fun _ => 0))) ∧ Below w.heap.size w w') := by
  have HSd := Lib.hid (sd_wrap hn0 hn4)
  have HSw := Lib.hid (sd_wrap2 hn0 hn4)
  obtain ⟨d, hd⟩ : ∃ d, sd n = d := ⟨_, rfl⟩
  rw [hd] at HSd HSw ⊢
  have HBl := Lib.hid (built_m2 d d)
  have HI4 : Hid ((Tryd.prog.info? 59).map (·.size) = some (mcells d d (fun _ => 0)).size) := infoM
  have HI5 : Hid (zeros.size = (mcells d d (fun _ => 0)).size) := rfl
  have HI6 : Hid ((mcells d d (fun _ => 0)).all (·.oneCell') = true) := mcells_one d d (fun _ => 0)
  obtain ⟨C0, hC0⟩ : ∃ C, mcells d d (fun _ => 0) = C := ⟨_, rfl⟩
  rw [hC0] at HBl HI4 HI5 HI6 ⊢
  obtain ⟨W0, hW0⟩ : ∃ W0, w.alloc (.cells #[.int .i64 0, .int .i64 0, .int .u32 0, .int .u32 0, .int .u32 0, .int .u32 0, .int .u32 0, .int .u32 0, .int .u32 0, .int .u32 0, .int .u32 0, .int .u32 0, .int .u32 0, .int .u32 0, .int .u32 0, .int .u32 0, .int .u32 0, .int .u32 0] 59) = W0 := ⟨_, rfl⟩
  have hz : zeros = #[.int .i64 0, .int .i64 0, .int .u32 0, .int .u32 0, .int .u32 0, .int .u32 0, .int .u32 0, .int .u32 0, .int .u32 0, .int .u32 0, .int .u32 0, .int .u32 0, .int .u32 0, .int .u32 0, .int .u32 0, .int .u32 0, .int .u32 0, .int .u32 0] := rfl
  have hb0 : Below w.heap.size w W0 := by rw [← hW0]; exact Joins.below_alloc1 _ _
  have hr0 : W0.heap[w.heap.size]? = some (.cells zeros 59 (0, 0)) := by rw [← hW0, hz]; exact heap_alloc_last w _
  have HW0 := Lib.hid hW0
  have HB0 := Lib.hid hb0
  have KR : Hid (∀ W, Below W0.heap.size W0 W → W.heap[w.heap.size]? = some (.cells zeros 59 (0, 0))) := fun W hb => (hb.block _ (Array.getElem?_eq_some_iff.1 hr0).1).trans hr0
  clear hW0 hz hr0 hb0 hC0 hd
  go_enter Tryd.func79, Tryd.ntmps79
  go_upto_region 1 with fail
  rw [HW0.out]
  refine wp_region_inv_at (by kernel_rfl) (fun A0 L A W => ∃ (b0 b1 b2 b3 b4 b5 : Bool) (v3 v4 v5 v6 v7 : Value), L = #[b0, b1, b2, b3, b4, b5] ∧ A = (((((A0.put (some 3) v3).put (some 4) v4).put (some 5) v5).put (some 6) v6).put (some 7) v7) ∧ (∃ Wp, Below W0.heap.size W0 Wp ∧ W = (if b5 = true then Wp.setRow w.heap.size C0 else Wp)) ∧ Hid (b0 = true → v3 = .int .i64 n) ∧ Hid (b1 = true → v4 = .int .i64 d) ∧ Hid (b2 = true → v5 = .int .i64 n) ∧ Hid (b3 = true → v6 = .int .i64 d) ∧ Hid (b4 = true → v7 = .agg C0) ∧ Hid ((b0 = false → b5 = false) ∧ (b1 = false → b5 = false) ∧ (b2 = false → b5 = false) ∧ (b3 = false → b5 = false) ∧ (b4 = false → b5 = false))) ?_ ?_ ?_
  · intro A0
    refine ⟨false, false, false, false, false, false, A0.tmps.getD 3 undef, A0.tmps.getD 4 undef, A0.tmps.getD 5 undef, A0.tmps.getD 6 undef, A0.tmps.getD 7 undef, rfl, (by simp only [put_self]), ⟨_, (Below.refl _ _).drew, rfl⟩, Lib.hid (fun hf => by cases hf), Lib.hid (fun hf => by cases hf), Lib.hid (fun hf => by cases hf), Lib.hid (fun hf => by cases hf), Lib.hid (fun hf => by cases hf), Lib.hid ⟨fun _ => rfl, fun _ => rfl, fun _ => rfl, fun _ => rfl, fun _ => rfl⟩⟩
  · intro L A W hI i hi o ho K' hK
    have hlt := (ready_left hi).1
    have hun := (ready_left hi).2
    have haf := ready_after hi ho
    clear hi
    obtain ⟨b0, b1, b2, b3, b4, b5, v3, v4, v5, v6, v7, rfl, rfl, hB, h0, h1, h2, h3, h4, p⟩ := hI
    have hc : i = 0 ∨ i = 1 ∨ i = 2 ∨ i = 3 ∨ i = 4 ∨ i = 5 := by
      simp at hlt
      omega
    rcases hc with rfl | rfl | rfl | rfl | rfl | rfl
    all_goals (obtain rfl := Option.some.inj ho; clear ho; simp [Region.binds] at haf hun; (try simp only [List.getElem_toArray, List.getElem_cons_zero, List.getElem_cons_succ]); simp only [Act.put, List.setIfInBounds_toArray, List.set_cons_zero, List.set_cons_succ])
    · -- operation 0
      replace hK := Lib.hid hK
      have hlast : b5 = false := p.out.1 hun
      subst hlast
      obtain ⟨Wp, hB, hWp⟩ := hB
      have hWq : W = Wp := by simpa using hWp
      clear hWp
      subst hWq
      have qR := KR.out W hB
      subst hun
      go_simp
      exact hK.out _ _ ⟨true, b1, b2, b3, b4, false, .int .i64 n, v4, v5, v6, v7, rfl, (by simp only [Act.put, List.setIfInBounds_toArray, List.set_cons_zero, List.set_cons_succ]), ⟨_, hB, rfl⟩, Lib.hid (fun _ => rfl), h1, h2, h3, h4, Lib.hid ⟨(fun hf => by cases hf), (fun _ => rfl), (fun _ => rfl), (fun _ => rfl), (fun _ => rfl)⟩⟩
    · -- operation 1
      replace hK := Lib.hid hK
      have hlast : b5 = false := p.out.2.1 hun
      subst hlast
      obtain ⟨Wp, hB, hWp⟩ := hB
      have hWq : W = Wp := by simpa using hWp
      clear hWp
      subst hWq
      have qR := KR.out W hB
      obtain rfl := h0.out (by simp only [haf])
      subst hun
      go_simp
      simp only [HSw.out]
      exact hK.out _ _ ⟨b0, true, b2, b3, b4, false, .int .i64 n, .int .i64 d, v5, v6, v7, rfl, (by simp only [Act.put, List.setIfInBounds_toArray, List.set_cons_zero, List.set_cons_succ]), ⟨_, hB, rfl⟩, Lib.hid (fun _ => rfl), Lib.hid (fun _ => rfl), h2, h3, h4, Lib.hid ⟨(fun _ => rfl), (fun hf => by cases hf), (fun _ => rfl), (fun _ => rfl), (fun _ => rfl)⟩⟩
    · -- operation 2
      replace hK := Lib.hid hK
      have hlast : b5 = false := p.out.2.2.1 hun
      subst hlast
      obtain ⟨Wp, hB, hWp⟩ := hB
      have hWq : W = Wp := by simpa using hWp
      clear hWp
      subst hWq
      have qR := KR.out W hB
      subst hun
      go_simp
      exact hK.out _ _ ⟨b0, b1, true, b3, b4, false, v3, v4, .int .i64 n, v6, v7, rfl, (by simp only [Act.put, List.setIfInBounds_toArray, List.set_cons_zero, List.set_cons_succ]), ⟨_, hB, rfl⟩, h0, h1, Lib.hid (fun _ => rfl), h3, h4, Lib.hid ⟨(fun _ => rfl), (fun _ => rfl), (fun hf => by cases hf), (fun _ => rfl), (fun _ => rfl)⟩⟩
    · -- operation 3
      replace hK := Lib.hid hK
      have hlast : b5 = false := p.out.2.2.2.1 hun
      subst hlast
      obtain ⟨Wp, hB, hWp⟩ := hB
      have hWq : W = Wp := by simpa using hWp
      clear hWp
      subst hWq
      have qR := KR.out W hB
      obtain rfl := h2.out (by simp only [haf])
      subst hun
      go_simp
      simp only [HSw.out]
      exact hK.out _ _ ⟨b0, b1, b2, true, b4, false, v3, v4, .int .i64 n, .int .i64 d, v7, rfl, (by simp only [Act.put, List.setIfInBounds_toArray, List.set_cons_zero, List.set_cons_succ]), ⟨_, hB, rfl⟩, h0, h1, Lib.hid (fun _ => rfl), Lib.hid (fun _ => rfl), h4, Lib.hid ⟨(fun _ => rfl), (fun _ => rfl), (fun _ => rfl), (fun hf => by cases hf), (fun _ => rfl)⟩⟩
    · -- operation 4
      replace hK := Lib.hid hK
      have hlast : b5 = false := p.out.2.2.2.2 hun
      subst hlast
      obtain ⟨Wp, hB, hWp⟩ := hB
      have hWq : W = Wp := by simpa using hWp
      clear hWp
      subst hWq
      have qR := KR.out W hB
      obtain rfl := h1.out (by simp only [haf])
      obtain rfl := h3.out (by simp only [haf])
      subst hun
      rw [if_pos (by simp [Region.wanted])]
      refine wp_build_as 59 _ rfl [(0, .int .i64 d), (1, .int .i64 d)] C0 rfl HBl.out ?_
      exact hK.out _ _ ⟨b0, b1, b2, b3, true, false, v3, .int .i64 d, v5, .int .i64 d, .agg C0, rfl, (by simp only [Act.put, List.setIfInBounds_toArray, List.set_cons_zero, List.set_cons_succ]), ⟨_, hB, rfl⟩, h0, Lib.hid (fun _ => rfl), h2, Lib.hid (fun _ => rfl), Lib.hid (fun _ => rfl), Lib.hid ⟨(fun _ => rfl), (fun _ => rfl), (fun _ => rfl), (fun _ => rfl), (fun hf => by cases hf)⟩⟩
    · -- operation 5
      replace hK := Lib.hid hK
      subst hun
      obtain ⟨Wp, hB, hWp⟩ := hB
      have hWq : W = Wp := by simpa using hWp
      clear hWp
      subst hWq
      have qR := KR.out W hB
      obtain rfl := h4.out (by simp only [haf])
      rw [if_pos (by simp [Region.wanted])]
      refine wp_store_row 59 _ _ rfl w.heap.size C0 rfl rfl 59 zeros qR HI4.out HI5.out HI6.out ?_
      exact hK.out _ _ ⟨b0, b1, b2, b3, b4, true, v3, v4, v5, v6, .agg C0, rfl, (by simp only [Act.put, List.setIfInBounds_toArray, List.set_cons_zero, List.set_cons_succ]), ⟨_, hB, rfl⟩, h0, h1, h2, h3, Lib.hid (fun _ => rfl), Lib.hid ⟨(fun hf => absurd (show false = true from hf.symm.trans (by simp only [haf])) (by decide)), (fun hf => absurd (show false = true from hf.symm.trans (by simp only [haf])) (by decide)), (fun hf => absurd (show false = true from hf.symm.trans (by simp only [haf])) (by decide)), (fun hf => absurd (show false = true from hf.symm.trans (by simp only [haf])) (by decide)), (fun hf => absurd (show false = true from hf.symm.trans (by simp only [haf])) (by decide))⟩⟩
  intro L A W hI hr
  obtain ⟨b0, b1, b2, b3, b4, b5, v3, v4, v5, v6, v7, rfl, rfl, hB, h0, h1, h2, h3, h4, p⟩ := hI
  have d0 := ready_done hr 0 _ rfl (by simp [Region.binds])
  have d2 := ready_done hr 2 _ rfl (by simp [Region.binds])
  simp at d0 d2
  subst d0 d2
  have d1 := ready_done hr 1 _ rfl (by simp [Region.binds])
  have d3 := ready_done hr 3 _ rfl (by simp [Region.binds])
  simp at d1 d3
  subst d1 d3
  have d4 := ready_done hr 4 _ rfl (by simp [Region.binds])
  simp at d4
  subst d4
  have d5 := ready_done hr 5 _ rfl (by simp [Region.binds])
  simp at d5
  subst d5
  obtain rfl := h0.out rfl
  obtain rfl := h1.out rfl
  obtain rfl := h2.out rfl
  obtain rfl := h3.out rfl
  obtain rfl := h4.out rfl
  obtain ⟨Wp, hB, hWp⟩ := hB
  have hWq : W = Wp.setRow w.heap.size C0 := by simpa using hWp
  clear hWp
  subst hWq
  simp only [Act.put, List.setIfInBounds_toArray, List.set_cons_zero, List.set_cons_succ]
  clear hr h0 h1 h2 h3 h4 p
  have qR := Lib.hid (KR.out Wp hB)
  have B1 := Lib.hid (HB0.out.trans (hB.mono HB0.out.size))
  clear hB
  go_wp2
  exact bodyPost_ret (results_cell1 (p := 2) (ty := 59) Tryd.results79 _ _ w.heap.size 59 C0 (0, 0) _ rfl (setRow_heap _ _ _ _ _ _ qR.out) Tryd.underlying59 rfl HI4.out) rfl ⟨rfl, setRow_below B1.out (Nat.le_refl _) _⟩
end Go.Proofs.YthblhibkbcmbaaaDoor

/- Contracts of single functions, and plain lemmas, on which the exact laws of this seat rest; each holds under the conditions that it states. -/
namespace Go.Proofs.YthblhibkbcmbaaaDoor
set_option linter.unusedVariables false
set_option linter.unusedSimpArgs false
open Go.RowKit
attribute [local go_sem] Oper.semAt_some

/-! ### the table of the quarters -/
def qvL : List Nat := [0, 0, 0, 1, 0, 0, 0, 1, 0, 1, 1, 0, 0, 0, 2, 0, 1, 1, 1, 1, 1, 1, 0, 3, 0, 0, 1, 1, 0, 2, 1, 1, 2, 0, 1, 4, 1, 1, 4, 0, 1, 3, 0, 0, 3, 1, 0, 1, 1, 1, 3, 1, 0, 4, 0, 0, 4, 0, 1, 2]
def qxN (m d : Nat) : Nat := qvL.getD (m * 12 + d * 3) 0
def qyN (m d : Nat) : Nat := qvL.getD (m * 12 + d * 3 + 1) 0
def qhN (m d : Nat) : Nat := qvL.getD (m * 12 + d * 3 + 2) 0
/-- how many quarters come before the one at a place -/
def dgN (m a b : Nat) : Nat := ((List.range 4).find? fun d => qxN m d == a && qyN m d == b).getD 0
def nxN (m a b : Nat) : Nat := qhN m (dgN m a b)
theorem dg_lt : ∀ m < 5, ∀ a < 2, ∀ b < 2, dgN m a b < 4 := by decide +kernel
theorem dg_at : ∀ m < 5, ∀ a < 2, ∀ b < 2, qxN m (dgN m a b) = a ∧ qyN m (dgN m a b) = b := by decide +kernel
theorem dg_before : ∀ m < 5, ∀ a < 2, ∀ b < 2, ∀ d < dgN m a b, ¬ (qxN m d = a ∧ qyN m d = b) := by decide +kernel
theorem nx_lt : ∀ m < 5, ∀ a < 2, ∀ b < 2, nxN m a b < 5 := by decide +kernel
theorem qx_lt : ∀ m < 5, ∀ d < 4, qxN m d < 2 ∧ qyN m d < 2 := by decide +kernel
/-- the table in its variable -/
def QvP (w : World) : Prop := (∀ j, j < 60 → w.cell? ⟨4, j, none⟩ = some (.int .i64 ((qvL.getD j 0 : Nat) : Int))) ∧ 4 < w.heap.size
theorem QvP.below {w w' : World} (h : QvP w) (hb : Below w.heap.size w w') : QvP w' :=
  ⟨fun j hj => (hb.cell (p := ⟨_, _, none⟩) h.2).trans (h.1 j hj), Nat.lt_of_lt_of_le h.2 hb.size⟩

/-! ### places compared -/
theorem kyP_some (x y : Nat) (hx : x < 2) (hy : y < 2) : (keyOf Tryd.prog 129 (.agg #[.int .i64 (x : Int), .int .i64 (y : Int)])).isSome = true := by
  rcases (by omega : x = 0 ∨ x = 1) with rfl | rfl <;> rcases (by omega : y = 0 ∨ y = 1) with rfl | rfl <;> kernel_rfl
set_option maxRecDepth 20000 in
/-- two places compared -/
theorem ne2 (x y a b : Nat) (hx : x < 2) (hy : y < 2) (ha : a < 2) (hb : b < 2) (w : World) : (binOp .neq 129 (.agg #[.int .i64 (x : Int), .int .i64 (y : Int)]) (.agg #[.int .i64 (a : Int), .int .i64 (b : Int)])).run Tryd.prog w = .ok (.bool (!decide (x = a ∧ y = b))) w := by
  obtain ⟨l1, h1⟩ := Option.isSome_iff_exists.1 (kyP_some x y hx hy)
  obtain ⟨l2, h2⟩ := Option.isSome_iff_exists.1 (kyP_some a b ha hb)
  obtain ⟨c, hc, hiff⟩ := run_equal_deep (P := Tryd.prog) w (m := 4) (by decide) (k := 129) (by kernel_rfl) (by rw [Tryd.underlying129]) h1 h2
  have e : c = decide (x = a ∧ y = b) := by
    rw [Bool.eq_iff_iff, hiff, decide_eq_true_eq]
    refine ⟨fun e => ?_, fun e => ?_⟩
    · have key : ∀ {x : Array Value} {l : Lit}, keyOf Tryd.prog 129 (.agg x) = some l → ∃ L, Tryd.prog.keyLits (Tryd.prog.types.size + 1) 129 x.toList = some L ∧ l = .string (keyBytes L) := by
        intro x l h
        unfold keyOf at h
        rw [Tryd.underlying129] at h
        simp only at h
        split at h
        · simp only [Option.map_eq_some_iff] at h
          obtain ⟨L, hl, rfl⟩ := h
          exact ⟨L, hl, rfl⟩
        · cases h
      obtain ⟨L1, k1, rfl⟩ := key h1
      obtain ⟨L2, k2, rfl⟩ := key h2
      have e2 : L1 = L2 := keyLits_inj k1 k2 (by simpa using e)
      have c1 := cells_of_lits (P := Tryd.prog) 4 129 (by kernel_rfl) _ _ _ k1
      have c2 := cells_of_lits (P := Tryd.prog) 4 129 (by kernel_rfl) _ _ _ k2
      rw [e2] at c1
      have h3 := c1.trans c2.symm
      simp at h3
      exact ⟨by omega, by omega⟩
    · rw [e.1, e.2] at h1
      rw [h1] at h2
      exact Option.some.inj h2
  rw [e] at hc
  simp [binOp, hc]

/-! ### the index of a spot, as the program finds it -/
def pb (x k : Nat) : Nat := x / 2 ^ k % 2
theorem pb_lt (x k : Nat) : pb x k < 2 := Nat.mod_lt _ (by omega)
theorem pb_eq : ∀ x < 16, ∀ k < 4, bits .and .i64 ((x : Nat) / 2 ^ k) 1 = ((pb x k : Nat) : Int) := by decide +kernel
def qF : Nat → Nat → Int → Nat → Nat → Int
  | 0, _, acc, _, _ => acc
  | b + 1, m, acc, x, y => qF b (nxN m (pb x b) (pb y b)) (bits .or .i64 (wrap64 (acc * 4)) ((dgN m (pb x b) (pb y b) : Nat) : Int)) x y
def rwI (n x y : Nat) : Int := bits .or .i64 (wrap64 ((y : Int) * 2 ^ n)) (x : Int)
def ixI (c n x y : Nat) : Int :=
  if c = 2 then qF n 0 0 x y else if c = 3 then qF n 1 0 x y else if c = 1 ∧ y % 2 = 1 then rwI n (2 ^ n - 1 - x) y else rwI n x y
/-! ### and as the specification does -/
def tnS : Nat → Nat → Nat → Nat
  | 0, _, _ => 0
  | n + 1, x, y => if x < 2 ^ n ∧ y < 2 ^ n then tnS n y x else if x < 2 ^ n then 2 ^ n * 2 ^ n + tnS n x (y - 2 ^ n) else if 2 ^ n ≤ y then 2 * (2 ^ n * 2 ^ n) + tnS n (x - 2 ^ n) (y - 2 ^ n) else 3 * (2 ^ n * 2 ^ n) + tnS n (2 ^ n - 1 - y) (2 * 2 ^ n - 1 - x)
theorem tnS_lt : ∀ n x y, tnS n x y < 2 ^ n * 2 ^ n
  | 0, _, _ => by simp [tnS]
  | n + 1, x, y => by
    have h := tnS_lt n
    have e : 2 ^ (n + 1) * 2 ^ (n + 1) = 4 * (2 ^ n * 2 ^ n) := by rw [Nat.pow_succ]; simp only [Nat.mul_comm, Nat.mul_left_comm]; omega
    rw [e]
    unfold tnS
    have h1 := h y x
    have h2 := h x (y - 2 ^ n)
    have h3 := h (x - 2 ^ n) (y - 2 ^ n)
    have h4 := h (2 ^ n - 1 - y) (2 * 2 ^ n - 1 - x)
    generalize 2 ^ n * 2 ^ n = p at *
    split
    · omega
    · split
      · omega
      · split <;> omega
def btS (x y : Nat) : Nat → Int
  | 0 => 0
  | k + 1 => bits .or .i64 (btS x y k) (bits .or .i64 (wrap64 (((pb x k : Nat) : Int) * 2 ^ (2 * k))) (wrap64 (((pb y k : Nat) : Int) * 2 ^ (2 * k + 1))))
def ixS (c n x y : Nat) : Int :=
  if c = 0 then (y : Int) * 2 ^ n + x else if c = 1 then (if y % 2 = 1 then (y : Int) * 2 ^ n + 2 ^ n - 1 - x else (y : Int) * 2 ^ n + x) else if c = 2 then btS x y n else ((tnS n x y : Nat) : Int)
set_option maxRecDepth 100000 in
theorem ixI_eq : ∀ c < 4, ∀ n < 5, ∀ x < 2 ^ n, ∀ y < 2 ^ n, ixI c n x y = ixS c n x y := by decide +kernel
set_option maxRecDepth 100000 in
theorem ixS_lt : ∀ c < 4, ∀ n < 5, ∀ x < 2 ^ n, ∀ y < 2 ^ n, 0 ≤ ixS c n x y ∧ ixS c n x y < 2 ^ n * 2 ^ n := by decide +kernel
end Go.Proofs.YthblhibkbcmbaaaDoor

/- Contracts of single functions, and plain lemmas, on which the exact laws of this seat rest; each holds under the conditions that it states. -/
namespace Go.Proofs.YthblhibkbcmbaaaDoor
set_option linter.unusedVariables false
set_option linter.unusedSimpArgs false
open Go.RowKit
attribute [local go_sem] Oper.semAt_some

set_option maxHeartbeats 1000000 in
set_option maxRecDepth 100000 in
theorem digitOf_any (m a b : Nat) (w : World) (hm : m < 5) (ha : a < 2) (hb : b < 2) (hQ : QvP w) : Calls Tryd.prog 89 #[.int .i64 (m : Int), .agg #[.int .i64 (a : Int), .int .i64 (b : Int)]] w (fun e w' => e = .returned (.tuple #[.int .i64 ((dgN m a b : Nat) : Int), .int .i64 ((nxN m a b : Nat) : Int)]) ∧ Below w.heap.size w w') := by
  obtain ⟨W0, hW0⟩ : ∃ W0, w.alloc (.cells #[.int .i64 (a : Int), .int .i64 (b : Int)] 129) = W0 := ⟨_, rfl⟩
  have b0 : Below w.heap.size w W0 := by rw [← hW0]; exact Joins.below_alloc1 _ _
  have hp0 : W0.heap[w.heap.size]? = some (.cells #[.int .i64 (a : Int), .int .i64 (b : Int)] 129 (0, 0)) := by
    rw [← hW0]; exact heap_alloc_last w _
  have HC : Hid (∀ W, Below W0.heap.size W0 W → W.cell? ⟨w.heap.size, 0, none⟩ = some (.int .i64 (a : Int)) ∧ W.cell? ⟨w.heap.size, 1, none⟩ = some (.int .i64 (b : Int))) := fun W hb =>
    ⟨cell_kept hb (by rw [Joins.cell_of_block hp0 0]; rfl), cell_kept hb (by rw [Joins.cell_of_block hp0 1]; rfl)⟩
  have HQ : Hid (∀ W, Below W0.heap.size W0 W → ∀ d, d < 4 → W.cell? ⟨4, m * 12 + d * 3, none⟩ = some (.int .i64 ((qxN m d : Nat) : Int)) ∧ W.cell? ⟨4, m * 12 + d * 3 + 1, none⟩ = some (.int .i64 ((qyN m d : Nat) : Int)) ∧ W.cell? ⟨4, m * 12 + d * 3 + 2, none⟩ = some (.int .i64 ((qhN m d : Nat) : Int))) := fun W hb d hd => by
    have q := (hQ.below b0).below hb
    exact ⟨q.1 _ (by omega), q.1 _ (by omega), q.1 _ (by omega)⟩
  have B0 := Lib.hid b0
  have HW := Lib.hid hW0
  have HD := Lib.hid (dg_lt m hm a ha b hb)
  have HAt := Lib.hid (dg_at m hm a ha b hb)
  have HBf := Lib.hid (dg_before m hm a ha b hb)
  have HN : Hid (nxN m a b = qhN m (dgN m a b)) := rfl
  have HQl := Lib.hid (qx_lt m hm)
  obtain ⟨D, hD⟩ : ∃ D, dgN m a b = D := ⟨_, rfl⟩
  rw [hD] at HD HAt HBf HN ⊢
  rw [HN.out]
  have kd := HD.out
  have k1 : (m : Int) < 5 := by omega
  have k2 : (0 : Int) ≤ (m : Int) := by omega
  clear hW0 hp0 hD b0 hQ
  go_enter Tryd.func89, Tryd.ntmps89
  go_upto_region 1 with fail
  rw [HW.out]
  go_upto_region 2 with fail
  go_loopw [6] (fun nv wr => ∃ k : Nat, k ≤ D ∧ nv = .int .i64 (k : Int) ∧ Hid (Below W0.heap.size W0 wr)) (fun iv _ => 4 - (intOf iv).toNat)
  case atStart => exact ⟨0, Nat.zero_le _, rfl, Lib.hid (Below.refl _ _)⟩
  case round =>
    obtain ⟨k, hk, rfl, HB⟩ := hrel
    have i2 : (0 : Int) ≤ (k : Int) := by omega
    have i1 : (k : Int) < 4 := by omega
    obtain ⟨q0, q1, q2⟩ := HQ.out _ HB.out k (by omega)
    obtain ⟨d0, d1⟩ := HC.out _ HB.out
    obtain ⟨z0, z1⟩ := HQl.out k (by omega)
    have hne := fun W => ne2 (qxN m k) (qyN m k) a b z0 z1 ha hb W
    by_cases hlt : k < D
    · have hdec : (!decide (qxN m k = a ∧ qyN m k = b)) = true := by
        rw [decide_eq_false (HBf.out k hlt)]; rfl
      rw [hdec] at hne
      clear hdec z0 z1 q2
      obtain ⟨u, hu⟩ : ∃ u, qxN m k = u := ⟨_, rfl⟩
      obtain ⟨v, hv⟩ : ∃ v, qyN m k = v := ⟨_, rfl⟩
      rw [hu] at q0 hne
      rw [hv] at q1 hne
      clear hu hv
      go_upto_region 2 with fail
      go_quiet (fail)
      have HB2 := Lib.hid (HB.out.trans (Joins.below_draws W0.heap.size wr nq))
      clear HB q0 q1 d0 d1 hne
      go_wp2
      go_roundw
      case rel => exact ⟨k + 1, by omega, by go_num, HB2.out⟩
      case measure => simp [intOf]; omega
    · obtain rfl : k = D := by omega
      have hdec : (!decide (qxN m k = a ∧ qyN m k = b)) = false := by
        rw [decide_eq_true HAt.out]; rfl
      rw [hdec] at hne
      clear hdec z0 z1
      obtain ⟨u, hu⟩ : ∃ u, qxN m k = u := ⟨_, rfl⟩
      obtain ⟨v, hv⟩ : ∃ v, qyN m k = v := ⟨_, rfl⟩
      rw [hu] at q0 hne
      rw [hv] at q1 hne
      clear hu hv HAt
      go_upto_region 2 with fail
      go_quiet (fail)
      have HB2 := Lib.hid (HB.out.trans (Joins.below_draws W0.heap.size wr nq))
      clear HB q0 q1 d0 d1 hne
      go_upto_region 4 with fail
      go_quiet (fail)
      have HB3 := Lib.hid (B0.out.trans ((HB2.out.trans (Joins.below_draws W0.heap.size _ nq)).mono B0.out.size))
      clear HB2 q2
      go_wp2
      go_ret2
      exact ⟨rfl, HB3.out⟩

theorem infoPlc : (Tryd.prog.info? 129).map (·.size) = some 2 := by kernel_rfl
set_option maxHeartbeats 1000000 in
set_option maxRecDepth 100000 in
theorem placeAt_any (x y k : Nat) (w : World) (hx16 : x < 16) (hy16 : y < 16) (hk4 : k < 4) : Calls Tryd.prog 90 #[.agg #[.int .i64 (x : Int), .int .i64 (y : Int)], .int .i64 (k : Int)] w (fun e w' => e = .returned (.agg #[.int .i64 ((pb x k : Nat) : Int), .int .i64 ((pb y k : Nat) : Int)]) ∧ Below w.heap.size w w') := by
  have HPx := Lib.hid (pb_eq x hx16 k hk4)
  have HPy := Lib.hid (pb_eq y hy16 k hk4)
  obtain ⟨px, hpx⟩ : ∃ p, pb x k = p := ⟨_, rfl⟩
  obtain ⟨py, hpy⟩ : ∃ p, pb y k = p := ⟨_, rfl⟩
  rw [hpx] at HPx ⊢
  rw [hpy] at HPy ⊢
  obtain ⟨W0, hW0⟩ : ∃ W0, ((w.alloc (.cells #[.int .i64 (x : Int), .int .i64 (y : Int)] 76)).alloc (.cells #[.int .i64 0, .int .i64 0] 129)) = W0 := ⟨_, rfl⟩
  have b0 : Below w.heap.size w W0 := by rw [← hW0]; exact Joins.below_alloc2 _ _ _
  have hp0 : W0.heap[w.heap.size]? = some (.cells #[.int .i64 (x : Int), .int .i64 (y : Int)] 76 (0, 0)) := by
    rw [← hW0, Below.heap_alloc _ _ _ (by simp)]; exact heap_alloc_last w _
  have hr0 : W0.heap[w.heap.size + 1]? = some (.cells #[.int .i64 0, .int .i64 0] 129 (0, 0)) := by
    rw [← hW0]
    exact heap_alloc2_new _ _ _
  have HX : Hid (∀ W, Below W0.heap.size W0 W → W.cell? ⟨w.heap.size, 0, none⟩ = some (.int .i64 (x : Int)) ∧ W.cell? ⟨w.heap.size, 1, none⟩ = some (.int .i64 (y : Int))) := fun W hb =>
    ⟨cell_kept hb (by rw [Joins.cell_of_block hp0 0]; rfl), cell_kept hb (by rw [Joins.cell_of_block hp0 1]; rfl)⟩
  have KR : Hid (∀ W, Below W0.heap.size W0 W → W.heap[w.heap.size + 1]? = some (.cells #[.int .i64 0, .int .i64 0] 129 (0, 0))) := fun W hb => (hb.block _ (Array.getElem?_eq_some_iff.1 hr0).1).trans hr0
  have HIp : Hid ((Tryd.prog.info? 129).map (·.size) = some (#[Value.int .i64 (px : Int), Value.int .i64 (py : Int)]).size) := infoPlc
  have B0 := Lib.hid b0
  have HW := Lib.hid hW0
  have kk : (0 : Int) ≤ (k : Int) := by omega
  clear b0 hW0 hp0 hr0 hpx hpy
  go_enter Tryd.func90, Tryd.ntmps90
  go_upto_region 1 with fail
  rw [HW.out]
  refine wp_region_inv_at (by kernel_rfl) (fun A0 L A W => ∃ (b0 b1 b2 b3 b4 b5 b6 b7 b8 b9 b10 b11 : Bool) (v5 v6 v7 v8 v9 v10 v11 v12 v13 v14 v15 : Value), L = #[b0, b1, b2, b3, b4, b5, b6, b7, b8, b9, b10, b11] ∧ A = (((((((((((A0.put (some 5) v5).put (some 6) v6).put (some 7) v7).put (some 8) v8).put (some 9) v9).put (some 10) v10).put (some 11) v11).put (some 12) v12).put (some 13) v13).put (some 14) v14).put (some 15) v15) ∧ (∃ Wp, Below W0.heap.size W0 Wp ∧ W = (if b11 = true then Wp.setRow (w.heap.size + 1) #[.int .i64 (px : Int), .int .i64 (py : Int)] else Wp)) ∧ Hid (b0 = true → v5 = .pointer (some ⟨w.heap.size, 0, none⟩)) ∧ Hid (b1 = true → v6 = .int .i64 (x : Int)) ∧ Hid (b2 = true → v7 = .int .i64 (k : Int)) ∧ Hid (b3 = true → v8 = .int .i64 ((x : Nat) / 2 ^ k)) ∧ Hid (b4 = true → v9 = .int .i64 ((px : Nat) : Int)) ∧ Hid (b5 = true → v10 = .pointer (some ⟨w.heap.size, 1, none⟩)) ∧ Hid (b6 = true → v11 = .int .i64 (y : Int)) ∧ Hid (b7 = true → v12 = .int .i64 (k : Int)) ∧ Hid (b8 = true → v13 = .int .i64 ((y : Nat) / 2 ^ k)) ∧ Hid (b9 = true → v14 = .int .i64 ((py : Nat) : Int)) ∧ Hid (b10 = true → v15 = .agg #[.int .i64 (px : Int), .int .i64 (py : Int)]) ∧ Hid ((b0 = false → b11 = false) ∧ (b1 = false → b11 = false) ∧ (b2 = false → b11 = false) ∧ (b3 = false → b11 = false) ∧ (b4 = false → b11 = false) ∧ (b5 = false → b11 = false) ∧ (b6 = false → b11 = false) ∧ (b7 = false → b11 = false) ∧ (b8 = false → b11 = false) ∧ (b9 = false → b11 = false) ∧ (b10 = false → b11 = false))) ?_ ?_ ?_
  · intro A0
    refine ⟨false, false, false, false, false, false, false, false, false, false, false, false, A0.tmps.getD 5 undef, A0.tmps.getD 6 undef, A0.tmps.getD 7 undef, A0.tmps.getD 8 undef, A0.tmps.getD 9 undef, A0.tmps.getD 10 undef, A0.tmps.getD 11 undef, A0.tmps.getD 12 undef, A0.tmps.getD 13 undef, A0.tmps.getD 14 undef, A0.tmps.getD 15 undef, rfl, (by simp only [put_self]), ⟨_, (Below.refl _ _).drew, rfl⟩, Lib.hid (fun hf => by cases hf), Lib.hid (fun hf => by cases hf), Lib.hid (fun hf => by cases hf), Lib.hid (fun hf => by cases hf), Lib.hid (fun hf => by cases hf), Lib.hid (fun hf => by cases hf), Lib.hid (fun hf => by cases hf), Lib.hid (fun hf => by cases hf), Lib.hid (fun hf => by cases hf), Lib.hid (fun hf => by cases hf), Lib.hid (fun hf => by cases hf), Lib.hid ⟨fun _ => rfl, fun _ => rfl, fun _ => rfl, fun _ => rfl, fun _ => rfl, fun _ => rfl, fun _ => rfl, fun _ => rfl, fun _ => rfl, fun _ => rfl, fun _ => rfl⟩⟩
  · intro L A W hI i hi o ho K' hK
    have hlt := (ready_left hi).1
    have hun := (ready_left hi).2
    have haf := ready_after hi ho
    clear hi
    obtain ⟨b0, b1, b2, b3, b4, b5, b6, b7, b8, b9, b10, b11, v5, v6, v7, v8, v9, v10, v11, v12, v13, v14, v15, rfl, rfl, hB, h0, h1, h2, h3, h4, h5, h6, h7, h8, h9, h10, p⟩ := hI
    have hc : i = 0 ∨ i = 1 ∨ i = 2 ∨ i = 3 ∨ i = 4 ∨ i = 5 ∨ i = 6 ∨ i = 7 ∨ i = 8 ∨ i = 9 ∨ i = 10 ∨ i = 11 := by
      simp at hlt
      omega
    rcases hc with rfl | rfl | rfl | rfl | rfl | rfl | rfl | rfl | rfl | rfl | rfl | rfl
    all_goals (obtain rfl := Option.some.inj ho; clear ho; simp [Region.binds] at haf hun; (try simp only [List.getElem_toArray, List.getElem_cons_zero, List.getElem_cons_succ]); simp only [Act.put, List.setIfInBounds_toArray, List.set_cons_zero, List.set_cons_succ])
    · -- operation 0
      replace hK := Lib.hid hK
      have hlast : b11 = false := p.out.1 hun
      subst hlast
      obtain ⟨Wp, hB, hWp⟩ := hB
      have hWq : W = Wp := by simpa using hWp
      clear hWp
      subst hWq
      have qR := KR.out W hB
      have q0 := (HX.out W hB).1
      have q1 := (HX.out W hB).2
      subst hun
      go_simp
      exact hK.out _ _ ⟨true, b1, b2, b3, b4, b5, b6, b7, b8, b9, b10, false, .pointer (some ⟨w.heap.size, 0, none⟩), v6, v7, v8, v9, v10, v11, v12, v13, v14, v15, rfl, (by simp only [Act.put, List.setIfInBounds_toArray, List.set_cons_zero, List.set_cons_succ]), ⟨_, hB, rfl⟩, Lib.hid (fun _ => rfl), h1, h2, h3, h4, h5, h6, h7, h8, h9, h10, Lib.hid ⟨(fun hf => by cases hf), (fun _ => rfl), (fun _ => rfl), (fun _ => rfl), (fun _ => rfl), (fun _ => rfl), (fun _ => rfl), (fun _ => rfl), (fun _ => rfl), (fun _ => rfl), (fun _ => rfl)⟩⟩
    · -- operation 1
      replace hK := Lib.hid hK
      have hlast : b11 = false := p.out.2.1 hun
      subst hlast
      obtain ⟨Wp, hB, hWp⟩ := hB
      have hWq : W = Wp := by simpa using hWp
      clear hWp
      subst hWq
      have qR := KR.out W hB
      have q0 := (HX.out W hB).1
      have q1 := (HX.out W hB).2
      obtain rfl := h0.out (by simp only [haf])
      subst hun
      go_simp
      exact hK.out _ _ ⟨b0, true, b2, b3, b4, b5, b6, b7, b8, b9, b10, false, .pointer (some ⟨w.heap.size, 0, none⟩), .int .i64 (x : Int), v7, v8, v9, v10, v11, v12, v13, v14, v15, rfl, (by simp only [Act.put, List.setIfInBounds_toArray, List.set_cons_zero, List.set_cons_succ]), ⟨_, hB, rfl⟩, Lib.hid (fun _ => rfl), Lib.hid (fun _ => rfl), h2, h3, h4, h5, h6, h7, h8, h9, h10, Lib.hid ⟨(fun _ => rfl), (fun hf => by cases hf), (fun _ => rfl), (fun _ => rfl), (fun _ => rfl), (fun _ => rfl), (fun _ => rfl), (fun _ => rfl), (fun _ => rfl), (fun _ => rfl), (fun _ => rfl)⟩⟩
    · -- operation 2
      replace hK := Lib.hid hK
      have hlast : b11 = false := p.out.2.2.1 hun
      subst hlast
      obtain ⟨Wp, hB, hWp⟩ := hB
      have hWq : W = Wp := by simpa using hWp
      clear hWp
      subst hWq
      have qR := KR.out W hB
      have q0 := (HX.out W hB).1
      have q1 := (HX.out W hB).2
      subst hun
      go_simp
      exact hK.out _ _ ⟨b0, b1, true, b3, b4, b5, b6, b7, b8, b9, b10, false, v5, v6, .int .i64 (k : Int), v8, v9, v10, v11, v12, v13, v14, v15, rfl, (by simp only [Act.put, List.setIfInBounds_toArray, List.set_cons_zero, List.set_cons_succ]), ⟨_, hB, rfl⟩, h0, h1, Lib.hid (fun _ => rfl), h3, h4, h5, h6, h7, h8, h9, h10, Lib.hid ⟨(fun _ => rfl), (fun _ => rfl), (fun hf => by cases hf), (fun _ => rfl), (fun _ => rfl), (fun _ => rfl), (fun _ => rfl), (fun _ => rfl), (fun _ => rfl), (fun _ => rfl), (fun _ => rfl)⟩⟩
    · -- operation 3
      replace hK := Lib.hid hK
      have hlast : b11 = false := p.out.2.2.2.1 hun
      subst hlast
      obtain ⟨Wp, hB, hWp⟩ := hB
      have hWq : W = Wp := by simpa using hWp
      clear hWp
      subst hWq
      have qR := KR.out W hB
      have q0 := (HX.out W hB).1
      have q1 := (HX.out W hB).2
      obtain rfl := h1.out (by simp only [haf])
      obtain rfl := h2.out (by simp only [haf])
      subst hun
      go_simp
      exact hK.out _ _ ⟨b0, b1, b2, true, b4, b5, b6, b7, b8, b9, b10, false, v5, .int .i64 (x : Int), .int .i64 (k : Int), .int .i64 ((x : Nat) / 2 ^ k), v9, v10, v11, v12, v13, v14, v15, rfl, (by simp only [Act.put, List.setIfInBounds_toArray, List.set_cons_zero, List.set_cons_succ]), ⟨_, hB, rfl⟩, h0, Lib.hid (fun _ => rfl), Lib.hid (fun _ => rfl), Lib.hid (fun _ => rfl), h4, h5, h6, h7, h8, h9, h10, Lib.hid ⟨(fun _ => rfl), (fun _ => rfl), (fun _ => rfl), (fun hf => by cases hf), (fun _ => rfl), (fun _ => rfl), (fun _ => rfl), (fun _ => rfl), (fun _ => rfl), (fun _ => rfl), (fun _ => rfl)⟩⟩
    · -- operation 4
      replace hK := Lib.hid hK
      have hlast : b11 = false := p.out.2.2.2.2.1 hun
      subst hlast
      obtain ⟨Wp, hB, hWp⟩ := hB
      have hWq : W = Wp := by simpa using hWp
      clear hWp
      subst hWq
      have qR := KR.out W hB
      have q0 := (HX.out W hB).1
      have q1 := (HX.out W hB).2
      obtain rfl := h3.out (by simp only [haf])
      subst hun
      go_simp
      simp only [HPx.out]
      exact hK.out _ _ ⟨b0, b1, b2, b3, true, b5, b6, b7, b8, b9, b10, false, v5, v6, v7, .int .i64 ((x : Nat) / 2 ^ k), .int .i64 ((px : Nat) : Int), v10, v11, v12, v13, v14, v15, rfl, (by simp only [Act.put, List.setIfInBounds_toArray, List.set_cons_zero, List.set_cons_succ]), ⟨_, hB, rfl⟩, h0, h1, h2, Lib.hid (fun _ => rfl), Lib.hid (fun _ => rfl), h5, h6, h7, h8, h9, h10, Lib.hid ⟨(fun _ => rfl), (fun _ => rfl), (fun _ => rfl), (fun _ => rfl), (fun hf => by cases hf), (fun _ => rfl), (fun _ => rfl), (fun _ => rfl), (fun _ => rfl), (fun _ => rfl), (fun _ => rfl)⟩⟩
    · -- operation 5
      replace hK := Lib.hid hK
      have hlast : b11 = false := p.out.2.2.2.2.2.1 hun
      subst hlast
      obtain ⟨Wp, hB, hWp⟩ := hB
      have hWq : W = Wp := by simpa using hWp
      clear hWp
      subst hWq
      have qR := KR.out W hB
      have q0 := (HX.out W hB).1
      have q1 := (HX.out W hB).2
      subst hun
      go_simp
      exact hK.out _ _ ⟨b0, b1, b2, b3, b4, true, b6, b7, b8, b9, b10, false, v5, v6, v7, v8, v9, .pointer (some ⟨w.heap.size, 1, none⟩), v11, v12, v13, v14, v15, rfl, (by simp only [Act.put, List.setIfInBounds_toArray, List.set_cons_zero, List.set_cons_succ]), ⟨_, hB, rfl⟩, h0, h1, h2, h3, h4, Lib.hid (fun _ => rfl), h6, h7, h8, h9, h10, Lib.hid ⟨(fun _ => rfl), (fun _ => rfl), (fun _ => rfl), (fun _ => rfl), (fun _ => rfl), (fun hf => by cases hf), (fun _ => rfl), (fun _ => rfl), (fun _ => rfl), (fun _ => rfl), (fun _ => rfl)⟩⟩
    · -- operation 6
      replace hK := Lib.hid hK
      have hlast : b11 = false := p.out.2.2.2.2.2.2.1 hun
      subst hlast
      obtain ⟨Wp, hB, hWp⟩ := hB
      have hWq : W = Wp := by simpa using hWp
      clear hWp
      subst hWq
      have qR := KR.out W hB
      have q0 := (HX.out W hB).1
      have q1 := (HX.out W hB).2
      obtain rfl := h5.out (by simp only [haf])
      subst hun
      go_simp
      exact hK.out _ _ ⟨b0, b1, b2, b3, b4, b5, true, b7, b8, b9, b10, false, v5, v6, v7, v8, v9, .pointer (some ⟨w.heap.size, 1, none⟩), .int .i64 (y : Int), v12, v13, v14, v15, rfl, (by simp only [Act.put, List.setIfInBounds_toArray, List.set_cons_zero, List.set_cons_succ]), ⟨_, hB, rfl⟩, h0, h1, h2, h3, h4, Lib.hid (fun _ => rfl), Lib.hid (fun _ => rfl), h7, h8, h9, h10, Lib.hid ⟨(fun _ => rfl), (fun _ => rfl), (fun _ => rfl), (fun _ => rfl), (fun _ => rfl), (fun _ => rfl), (fun hf => by cases hf), (fun _ => rfl), (fun _ => rfl), (fun _ => rfl), (fun _ => rfl)⟩⟩
    · -- operation 7
      replace hK := Lib.hid hK
      have hlast : b11 = false := p.out.2.2.2.2.2.2.2.1 hun
      subst hlast
      obtain ⟨Wp, hB, hWp⟩ := hB
      have hWq : W = Wp := by simpa using hWp
      clear hWp
      subst hWq
      have qR := KR.out W hB
      have q0 := (HX.out W hB).1
      have q1 := (HX.out W hB).2
      subst hun
      go_simp
      exact hK.out _ _ ⟨b0, b1, b2, b3, b4, b5, b6, true, b8, b9, b10, false, v5, v6, v7, v8, v9, v10, v11, .int .i64 (k : Int), v13, v14, v15, rfl, (by simp only [Act.put, List.setIfInBounds_toArray, List.set_cons_zero, List.set_cons_succ]), ⟨_, hB, rfl⟩, h0, h1, h2, h3, h4, h5, h6, Lib.hid (fun _ => rfl), h8, h9, h10, Lib.hid ⟨(fun _ => rfl), (fun _ => rfl), (fun _ => rfl), (fun _ => rfl), (fun _ => rfl), (fun _ => rfl), (fun _ => rfl), (fun hf => by cases hf), (fun _ => rfl), (fun _ => rfl), (fun _ => rfl)⟩⟩
    · -- operation 8
      replace hK := Lib.hid hK
      have hlast : b11 = false := p.out.2.2.2.2.2.2.2.2.1 hun
      subst hlast
      obtain ⟨Wp, hB, hWp⟩ := hB
      have hWq : W = Wp := by simpa using hWp
      clear hWp
      subst hWq
      have qR := KR.out W hB
      have q0 := (HX.out W hB).1
      have q1 := (HX.out W hB).2
      obtain rfl := h6.out (by simp only [haf])
      obtain rfl := h7.out (by simp only [haf])
      subst hun
      go_simp
      exact hK.out _ _ ⟨b0, b1, b2, b3, b4, b5, b6, b7, true, b9, b10, false, v5, v6, v7, v8, v9, v10, .int .i64 (y : Int), .int .i64 (k : Int), .int .i64 ((y : Nat) / 2 ^ k), v14, v15, rfl, (by simp only [Act.put, List.setIfInBounds_toArray, List.set_cons_zero, List.set_cons_succ]), ⟨_, hB, rfl⟩, h0, h1, h2, h3, h4, h5, Lib.hid (fun _ => rfl), Lib.hid (fun _ => rfl), Lib.hid (fun _ => rfl), h9, h10, Lib.hid ⟨(fun _ => rfl), (fun _ => rfl), (fun _ => rfl), (fun _ => rfl), (fun _ => rfl), (fun _ => rfl), (fun _ => rfl), (fun _ => rfl), (fun hf => by cases hf), (fun _ => rfl), (fun _ => rfl)⟩⟩
    · -- operation 9
      replace hK := Lib.hid hK
      have hlast : b11 = false := p.out.2.2.2.2.2.2.2.2.2.1 hun
      subst hlast
      obtain ⟨Wp, hB, hWp⟩ := hB
      have hWq : W = Wp := by simpa using hWp
      clear hWp
      subst hWq
      have qR := KR.out W hB
      have q0 := (HX.out W hB).1
      have q1 := (HX.out W hB).2
      obtain rfl := h8.out (by simp only [haf])
      subst hun
      go_simp
      simp only [HPy.out]
      exact hK.out _ _ ⟨b0, b1, b2, b3, b4, b5, b6, b7, b8, true, b10, false, v5, v6, v7, v8, v9, v10, v11, v12, .int .i64 ((y : Nat) / 2 ^ k), .int .i64 ((py : Nat) : Int), v15, rfl, (by simp only [Act.put, List.setIfInBounds_toArray, List.set_cons_zero, List.set_cons_succ]), ⟨_, hB, rfl⟩, h0, h1, h2, h3, h4, h5, h6, h7, Lib.hid (fun _ => rfl), Lib.hid (fun _ => rfl), h10, Lib.hid ⟨(fun _ => rfl), (fun _ => rfl), (fun _ => rfl), (fun _ => rfl), (fun _ => rfl), (fun _ => rfl), (fun _ => rfl), (fun _ => rfl), (fun _ => rfl), (fun hf => by cases hf), (fun _ => rfl)⟩⟩
    · -- operation 10
      replace hK := Lib.hid hK
      have hlast : b11 = false := p.out.2.2.2.2.2.2.2.2.2.2 hun
      subst hlast
      obtain ⟨Wp, hB, hWp⟩ := hB
      have hWq : W = Wp := by simpa using hWp
      clear hWp
      subst hWq
      have qR := KR.out W hB
      have q0 := (HX.out W hB).1
      have q1 := (HX.out W hB).2
      obtain rfl := h4.out (by simp only [haf])
      obtain rfl := h9.out (by simp only [haf])
      subst hun
      go_simp
      exact hK.out _ _ ⟨b0, b1, b2, b3, b4, b5, b6, b7, b8, b9, true, false, v5, v6, v7, v8, .int .i64 ((px : Nat) : Int), v10, v11, v12, v13, .int .i64 ((py : Nat) : Int), .agg #[.int .i64 (px : Int), .int .i64 (py : Int)], rfl, (by simp only [Act.put, List.setIfInBounds_toArray, List.set_cons_zero, List.set_cons_succ]), ⟨_, hB, rfl⟩, h0, h1, h2, h3, Lib.hid (fun _ => rfl), h5, h6, h7, h8, Lib.hid (fun _ => rfl), Lib.hid (fun _ => rfl), Lib.hid ⟨(fun _ => rfl), (fun _ => rfl), (fun _ => rfl), (fun _ => rfl), (fun _ => rfl), (fun _ => rfl), (fun _ => rfl), (fun _ => rfl), (fun _ => rfl), (fun _ => rfl), (fun hf => by cases hf)⟩⟩
    · -- operation 11
      replace hK := Lib.hid hK
      subst hun
      obtain ⟨Wp, hB, hWp⟩ := hB
      have hWq : W = Wp := by simpa using hWp
      clear hWp
      subst hWq
      have qR := KR.out W hB
      have q0 := (HX.out W hB).1
      have q1 := (HX.out W hB).2
      obtain rfl := h10.out (by simp only [haf])
      rw [if_pos (by simp [Region.wanted])]
      refine wp_store_row 129 _ _ rfl (w.heap.size + 1) #[.int .i64 (px : Int), .int .i64 (py : Int)] rfl rfl 129 #[.int .i64 0, .int .i64 0] qR HIp.out rfl (by simp [Value.oneCell']) ?_
      exact hK.out _ _ ⟨b0, b1, b2, b3, b4, b5, b6, b7, b8, b9, b10, true, v5, v6, v7, v8, v9, v10, v11, v12, v13, v14, .agg #[.int .i64 (px : Int), .int .i64 (py : Int)], rfl, (by simp only [Act.put, List.setIfInBounds_toArray, List.set_cons_zero, List.set_cons_succ]), ⟨_, hB, rfl⟩, h0, h1, h2, h3, h4, h5, h6, h7, h8, h9, Lib.hid (fun _ => rfl), Lib.hid ⟨(fun hf => absurd (show false = true from hf.symm.trans (by simp only [haf])) (by decide)), (fun hf => absurd (show false = true from hf.symm.trans (by simp only [haf])) (by decide)), (fun hf => absurd (show false = true from hf.symm.trans (by simp only [haf])) (by decide)), (fun hf => absurd (show false = true from hf.symm.trans (by simp only [haf])) (by decide)), (fun hf => absurd (show false = true from hf.symm.trans (by simp only [haf])) (by decide)), (fun hf => absurd (show false = true from hf.symm.trans (by simp only [haf])) (by decide)), (fun hf => absurd (show false = true from hf.symm.trans (by simp only [haf])) (by decide)), (fun hf => absurd (show false = true from hf.symm.trans (by simp only [haf])) (by decide)), (fun hf => absurd (show false = true from hf.symm.trans (by simp only [haf])) (by decide)), (fun hf => absurd (show false = true from hf.symm.trans (by simp only [haf])) (by decide)), (fun hf => absurd (show false = true from hf.symm.trans (by simp only [haf])) (by decide))⟩⟩
  intro L A W hI hr
  obtain ⟨b0, b1, b2, b3, b4, b5, b6, b7, b8, b9, b10, b11, v5, v6, v7, v8, v9, v10, v11, v12, v13, v14, v15, rfl, rfl, hB, h0, h1, h2, h3, h4, h5, h6, h7, h8, h9, h10, p⟩ := hI
  have d0 := ready_done hr 0 _ rfl (by simp [Region.binds])
  have d2 := ready_done hr 2 _ rfl (by simp [Region.binds])
  have d5 := ready_done hr 5 _ rfl (by simp [Region.binds])
  have d7 := ready_done hr 7 _ rfl (by simp [Region.binds])
  simp at d0 d2 d5 d7
  subst d0 d2 d5 d7
  have d1 := ready_done hr 1 _ rfl (by simp [Region.binds])
  have d6 := ready_done hr 6 _ rfl (by simp [Region.binds])
  simp at d1 d6
  subst d1 d6
  have d3 := ready_done hr 3 _ rfl (by simp [Region.binds])
  have d8 := ready_done hr 8 _ rfl (by simp [Region.binds])
  simp at d3 d8
  subst d3 d8
  have d4 := ready_done hr 4 _ rfl (by simp [Region.binds])
  have d9 := ready_done hr 9 _ rfl (by simp [Region.binds])
  simp at d4 d9
  subst d4 d9
  have d10 := ready_done hr 10 _ rfl (by simp [Region.binds])
  simp at d10
  subst d10
  have d11 := ready_done hr 11 _ rfl (by simp [Region.binds])
  simp at d11
  subst d11
  obtain rfl := h0.out rfl
  obtain rfl := h1.out rfl
  obtain rfl := h2.out rfl
  obtain rfl := h3.out rfl
  obtain rfl := h4.out rfl
  obtain rfl := h5.out rfl
  obtain rfl := h6.out rfl
  obtain rfl := h7.out rfl
  obtain rfl := h8.out rfl
  obtain rfl := h9.out rfl
  obtain rfl := h10.out rfl
  obtain ⟨Wp, hB, hWp⟩ := hB
  have hWq : W = Wp.setRow (w.heap.size + 1) #[.int .i64 (px : Int), .int .i64 (py : Int)] := by simpa using hWp
  clear hWp
  subst hWq
  simp only [Act.put, List.setIfInBounds_toArray, List.set_cons_zero, List.set_cons_succ]
  clear hr h0 h1 h2 h3 h4 h5 h6 h7 h8 h9 h10 p
  have qR := Lib.hid (KR.out Wp hB)
  have B1 := Lib.hid (B0.out.trans (hB.mono B0.out.size))
  clear hB
  go_wp2
  exact bodyPost_ret (results_cell1 (p := 4) (ty := 129) Tryd.results90 _ _ (w.heap.size + 1) 129 #[.int .i64 (px : Int), .int .i64 (py : Int)] (0, 0) _ rfl (setRow_heap _ _ _ _ _ _ qR.out) Tryd.underlying129 rfl HIp.out) rfl ⟨rfl, setRow_below B1.out (by omega) _⟩

/-- the cells of a tour and of a spot that are arguments -/
structure TS (w W0 : World) (c n x y : Nat) : Prop where
  b : Below w.heap.size w W0
  cells : ∀ W, Below W0.heap.size W0 W → W.cell? ⟨w.heap.size, 0, none⟩ = some (.int .i64 (c : Int)) ∧ W.cell? ⟨w.heap.size, 1, none⟩ = some (.int .i64 (n : Int)) ∧ W.cell? ⟨w.heap.size + 1, 0, none⟩ = some (.int .i64 (x : Int)) ∧ W.cell? ⟨w.heap.size + 1, 1, none⟩ = some (.int .i64 (y : Int))
  lt : w.heap.size + 1 < W0.heap.size
theorem ts_start (w : World) (c n x y : Nat) : TS w ((w.alloc (.cells #[.int .i64 (c : Int), .int .i64 (n : Int)] 66)).alloc (.cells #[.int .i64 (x : Int), .int .i64 (y : Int)] 76)) c n x y := by
  have hp0 : ((w.alloc (.cells #[.int .i64 (c : Int), .int .i64 (n : Int)] 66)).alloc (.cells #[.int .i64 (x : Int), .int .i64 (y : Int)] 76)).heap[w.heap.size]? = some (.cells #[.int .i64 (c : Int), .int .i64 (n : Int)] 66 (0, 0)) := by
    rw [Below.heap_alloc _ _ _ (by simp)]; exact heap_alloc_last w _
  have hr0 : ((w.alloc (.cells #[.int .i64 (c : Int), .int .i64 (n : Int)] 66)).alloc (.cells #[.int .i64 (x : Int), .int .i64 (y : Int)] 76)).heap[w.heap.size + 1]? = some (.cells #[.int .i64 (x : Int), .int .i64 (y : Int)] 76 (0, 0)) := heap_alloc2_new _ _ _
  refine ⟨Joins.below_alloc2 _ _ _, fun W hb => ⟨cell_kept hb (by rw [Joins.cell_of_block hp0 0]; rfl), cell_kept hb (by rw [Joins.cell_of_block hp0 1]; rfl), cell_kept hb (by rw [Joins.cell_of_block hr0 0]; rfl), cell_kept hb (by rw [Joins.cell_of_block hr0 1]; rfl)⟩, by simp⟩

set_option maxHeartbeats 1000000 in
set_option maxRecDepth 100000 in
theorem quarterIndex_any (c n x y m0 : Nat) (w : World) (hx : x < 16) (hy : y < 16) (hn : n ≤ 4) (hm : m0 < 5) (hQ : QvP w) : Calls Tryd.prog 84 #[.agg #[.int .i64 (c : Int), .int .i64 (n : Int)], .agg #[.int .i64 (x : Int), .int .i64 (y : Int)], .int .i64 (m0 : Int)] w (fun e w' => e = .returned (.int .i64 (qF n m0 0 x y)) ∧ Below w.heap.size w w') := by
  obtain ⟨W0, hW0⟩ : ∃ W0, ((w.alloc (.cells #[.int .i64 (c : Int), .int .i64 (n : Int)] 66)).alloc (.cells #[.int .i64 (x : Int), .int .i64 (y : Int)] 76)) = W0 := ⟨_, rfl⟩
  have ts := ts_start w c n x y
  rw [hW0] at ts
  have TSh := Lib.hid ts
  have HW := Lib.hid hW0
  have CP : Hid (∀ k : Nat, k < 4 → ∀ W, Calls Tryd.prog 90 #[.agg #[.int .i64 (x : Int), .int .i64 (y : Int)], .int .i64 (k : Int)] W (fun e w' => e = .returned (.agg #[.int .i64 ((pb x k : Nat) : Int), .int .i64 ((pb y k : Nat) : Int)]) ∧ Below W.heap.size W w')) := fun k hk W => placeAt_any x y k W hx hy hk
  have CD : Hid (∀ m a b : Nat, m < 5 → a < 2 → b < 2 → ∀ W, Below W0.heap.size W0 W → Calls Tryd.prog 89 #[.int .i64 (m : Int), .agg #[.int .i64 (a : Int), .int .i64 (b : Int)]] W (fun e w' => e = .returned (.tuple #[.int .i64 ((dgN m a b : Nat) : Int), .int .i64 ((nxN m a b : Nat) : Int)]) ∧ Below W.heap.size W w')) := fun m a b h1 h2 h3 W hb => digitOf_any m a b W h1 h2 h3 ((hQ.below ts.b).below hb)
  have c1 := (ts.cells W0 (Below.refl _ _)).2.1
  have kw : IntKind.i64.wrap ((n : Int) - 1) = (n : Int) - 1 := IntWalk.i64_in _ (by omega)
  have lt := ts.lt
  clear hW0 ts hQ
  go_enter Tryd.func84, Tryd.ntmps84
  go_upto_region 1 with fail
  rw [HW.out]
  go_wp2_with fail
  go_loopw [2, 7, 8] (fun hv iv bv wr => ∃ (r m : Nat) (acc : Int), r ≤ 4 ∧ m < 5 ∧ hv = .int .i64 (m : Int) ∧ iv = .int .i64 acc ∧ bv = .int .i64 ((r : Int) - 1) ∧ Hid (qF r m acc x y = qF n m0 0 x y) ∧ Hid (Below W0.heap.size W0 wr)) (fun _ _ bv _ => ((intOf bv) + 1).toNat)
  case atStart => exact ⟨n, m0, 0, hn, hm, rfl, rfl, rfl, Lib.hid rfl, Lib.hid (Below.refl _ _)⟩
  case round =>
    obtain ⟨r, m, acc, hr, hm5, rfl, rfl, rfl, HE, HB⟩ := hrel
    clear c1 kw
    cases r with
    | zero =>
      have HB9 := Lib.hid (TSh.out.b.trans (HB.out.mono TSh.out.b.size))
      have HE2 : Hid (acc = qF n m0 0 x y) := HE.out
      have kn : ¬ (0 : Int) ≤ ((0 : Nat) : Int) - 1 := by omega
      clear HB HE
      go_wp2
      go_ret
      exact ⟨ret_int HE2.out, HB9.out⟩
    | succ k =>
      have hk4 : k < 4 := by omega
      have e1 : ((k + 1 : Nat) : Int) - 1 = (k : Int) := by omega
      rw [e1]
      have kn : (0 : Int) ≤ (k : Int) := by omega
      have lB := TSh.out.lt
      have lB2 := HB.out.size
      obtain ⟨q0, q1, q2, q3⟩ := TSh.out.cells _ HB.out
      have CP2 := Lib.hid (CP.out k hk4)
      have ha := pb_lt x k
      have hb := pb_lt y k
      have HE2 : Hid (qF k (nxN m (pb x k) (pb y k)) (bits .or .i64 (wrap64 (acc * 4)) ((dgN m (pb x k) (pb y k) : Nat) : Int)) x y = qF n m0 0 x y) := HE.out
      have hnx := nx_lt m hm5 _ ha _ hb
      have CD2 := Lib.hid (CD.out m _ _ hm5 ha hb)
      obtain ⟨a, haa⟩ : ∃ a, pb x k = a := ⟨_, rfl⟩
      obtain ⟨b, hbb⟩ : ∃ b, pb y k = b := ⟨_, rfl⟩
      rw [haa, hbb] at CP2 CD2 HE2 hnx
      obtain ⟨d, hd⟩ : ∃ d, dgN m a b = d := ⟨_, rfl⟩
      obtain ⟨nx, hx2⟩ : ∃ d, nxN m a b = d := ⟨_, rfl⟩
      rw [hd, hx2] at CD2 HE2
      rw [hx2] at hnx
      clear HE haa hbb hd hx2 ha hb e1
      go_wp2_with fail
      refine (CP2.out _).mono ?_
      rintro e w1 ⟨rfl, hb1⟩
      have B1 := Lib.hid (HB.out.trans (hb1.mono HB.out.size))
      clear hb1 HB q0 q1 q2 q3
      go_wp2_with fail
      refine (CD2.out _ B1.out).mono ?_
      rintro e w2 ⟨rfl, hb2⟩
      have B2 := Lib.hid (B1.out.trans (hb2.mono B1.out.size))
      clear hb2 B1
      go_wp2
      go_roundw
      case rel => exact ⟨k, nx, _, by omega, hnx, rfl, rfl, by go_num, HE2.out, B2.out⟩
      case measure => first | (simp [intOf]; done) | (simp [intOf]; omega)

set_option maxHeartbeats 1000000 in
theorem rowIndex_any (c n x y : Nat) (w : World) (hn : n ≤ 4) : Calls Tryd.prog 85 #[.agg #[.int .i64 (c : Int), .int .i64 (n : Int)], .agg #[.int .i64 (x : Int), .int .i64 (y : Int)]] w (fun e w' => e = .returned (.int .i64 (rwI n x y)) ∧ Below w.heap.size w w') := by
  obtain ⟨W0, hW0⟩ : ∃ W0, ((w.alloc (.cells #[.int .i64 (c : Int), .int .i64 (n : Int)] 66)).alloc (.cells #[.int .i64 (x : Int), .int .i64 (y : Int)] 76)) = W0 := ⟨_, rfl⟩
  have ts := ts_start w c n x y
  rw [hW0] at ts
  have B0 := Lib.hid ts.b
  have HW := Lib.hid hW0
  have HR : Hid (rwI n x y = bits .or .i64 (wrap64 ((y : Int) * 2 ^ n)) (x : Int)) := rfl
  obtain ⟨q0, q1, q2, q3⟩ := ts.cells W0 (Below.refl _ _)
  have kn : (0 : Int) ≤ (n : Int) := by omega
  clear hW0 ts
  go_enter Tryd.func85, Tryd.ntmps85
  go_upto_region 1 with fail
  rw [HW.out]
  go_quiet (fail)
  go_wp2
  go_ret
  exact ⟨ret_int HR.out.symm, B0.out.trans (Joins.below_draws w.heap.size _ _)⟩
end Go.Proofs.YthblhibkbcmbaaaDoor
