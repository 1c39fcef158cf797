/- Contracts of single functions, and plain lemmas, on which the exact laws of this seat rest; each holds under the conditions that it states. -/
import Derived.Test.YtenbhnfajjknkaaDoorF3
import Derived.DeepKeys
import Derived.DeepKeys2
import Derived.Test.YtenbhnfajjknkaaDoorL14
import Derived.Test.YtenbhnfajjknkaaDoorHA
import Derived.Test.YtenbhnfajjknkaaDoorL5
namespace Go.Proofs.YtenbhnfajjknkaaDoor
set_option linter.unusedVariables false
set_option linter.unusedSimpArgs false
open Go.RowKit

/-! ### two planes are the same -/
theorem keyLits_one {P : Program} (d : Nat) (t : TypeId) (q : IntKind) (n : Int) (hu : P.underlying t = some (.int q)) (hw : (Lit.int q n).wf = true) : P.keyLits (d + 1) t [.int q n] = some [.int q n] := by
  unfold Program.keyLits
  simp [hu, hw]
theorem mapM_opt {α β : Type} (f : α → Option β) (g : α → β) : ∀ (l : List α), (∀ x ∈ l, f x = some (g x)) → l.mapM f = some (l.map g)
  | [], _ => by simp
  | a :: l, h => by
    rw [List.mapM_cons, h a (by simp), mapM_opt f g l (fun x hx => h x (by simp [hx]))]
    rfl
def rowsL24 (f : Nat → Int) : List Value := (List.range 24).map fun j => .int .u32 (f j)
theorem cells_u32 : Tryd.prog.cellsOf 65 = 1 := by kernel_rfl
theorem cells_i64 : Tryd.prog.cellsOf 2 = 1 := by kernel_rfl
theorem cells_rows : Tryd.prog.cellsOf 66 = 24 := by kernel_rfl
theorem cells_plane : Tryd.prog.cellsOf 68 = 26 := by kernel_rfl
theorem under_u32 : Tryd.prog.underlying 65 = some (.int .u32) := by kernel_rfl
theorem under_i64 : Tryd.prog.underlying 2 = some (.int .i64) := by kernel_rfl
theorem keyLits_rows (d : Nat) (f : Nat → Int) (hw : ∀ j, j < 24 → (Lit.int .u32 (f j)).wf = true) : Tryd.prog.keyLits (d + 1 + 1) 66 (rowsL24 f) = some ((List.range 24).map fun j => [Lit.int .u32 (f j)]).flatten := by
  unfold Program.keyLits
  rw [Tryd.underlying66]
  show (if (rowsL24 f).length = Tryd.prog.cellsOf 66 then _ else none) = _
  rw [if_pos (by rw [cells_rows]; simp [rowsL24])]
  rw [mapM_opt _ (fun j => [Lit.int .u32 (f j)]) _ (fun i hi => ?_)]
  · rfl
  · have hi2 := List.mem_range.1 hi
    rw [cells_u32, Nat.mul_one]
    have hl : i < (rowsL24 f).length := by simp [rowsL24]; omega
    rw [List.drop_eq_getElem_cons hl]
    have e : (rowsL24 f)[i] = .int .u32 (f i) := by simp [rowsL24]
    rw [e]
    exact keyLits_one d _ _ _ under_u32 (hw i hi2)
set_option maxRecDepth 20000 in
theorem keyOf_pl (a b : Nat) (r : Nat → Nat) (ha : a ≤ 16) (hb : b ≤ 16) (hr : PlW r) : ∃ l, keyOf Tryd.prog 68 (.agg (pl a b r)) = some l := by
  have w1 : ∀ n : Nat, n ≤ 16 → (Lit.int .i64 n).wf = true := fun n hn => by
    show (decide ((-9223372036854775808 : Int) ≤ n) && decide ((n : Int) ≤ 9223372036854775807)) = true
    rw [decide_eq_true (by omega), decide_eq_true (by omega)]
    rfl
  have w2 : ∀ j, j < 24 → (Lit.int .u32 ((r j : Nat) : Int)).wf = true := fun j _ => by
    have := hr j
    show (decide ((0 : Int) ≤ (r j : Nat)) && decide (((r j : Nat) : Int) ≤ 4294967295)) = true
    rw [decide_eq_true (by omega), decide_eq_true (by omega)]
    rfl
  have hkt : Tryd.prog.keyType 68 = true := by kernel_rfl
  have hsz : ∃ d, Tryd.prog.types.size + 1 = d + 1 + 1 + 1 := ⟨Tryd.prog.types.size - 2, by have : 3 ≤ Tryd.prog.types.size := of_decide_eq_true (by kernel_rfl); omega⟩
  obtain ⟨d, hd⟩ := hsz
  have hL : ∃ L, Tryd.prog.keyLits (d + 1 + 1 + 1) 68 (pl a b r).toList = some L := by
    unfold Program.keyLits
    rw [Tryd.underlying68]
    simp only
    rw [if_pos ⟨by rw [cells_plane]; rfl, by kernel_rfl⟩]
    simp only [List.mapM_cons, List.mapM_nil, cells_i64, cells_rows]
    rw [show ((pl a b r).toList.drop 0).take 1 = [.int .i64 a] from rfl, show ((pl a b r).toList.drop 1).take 1 = [.int .i64 b] from rfl,
      show ((pl a b r).toList.drop 2).take 24 = rowsL24 (fun j => (r j : Int)) from rfl, keyLits_one _ _ _ _ under_i64 (w1 a ha), keyLits_one _ _ _ _ under_i64 (w1 b hb), keyLits_rows d _ w2]
    exact ⟨_, rfl⟩
  obtain ⟨L, hL⟩ := hL
  refine ⟨.string (keyBytes L), ?_⟩
  unfold keyOf
  rw [Tryd.underlying68]
  simp only
  have hf : (Value.agg (pl a b r)).formed Tryd.prog 68 = true := by
    unfold Value.formed
    rw [Tryd.underlying68, cells_plane]
    rfl
  rw [hkt, hf, if_pos (by rfl), hd]
  show (Tryd.prog.keyLits (d + 1 + 1 + 1) 68 (pl a b r).toList).map _ = _
  rw [hL]
  rfl
set_option maxRecDepth 20000 in
theorem eql_pl (a b : Nat) (r s : Nat → Nat) (w : World) (ha : a ≤ 16) (hb : b ≤ 16) (hr : PlW r) (hs : PlW s) :
    ∃ c : Bool, (Op.equal 68 (.agg (pl a b r)) (.agg (pl a b s))).run Tryd.prog w = .ok c w ∧ (c = true ↔ ∀ j, j < 24 → r j = s j) := by
  obtain ⟨l1, h1⟩ := keyOf_pl a b r ha hb hr
  obtain ⟨l2, h2⟩ := keyOf_pl a b s ha hb hs
  obtain ⟨c, hc, hiff⟩ := run_equal_deep (P := Tryd.prog) w (m := 4) (by decide) (k := 68) (by kernel_rfl) (by rw [Tryd.underlying68]) h1 h2
  refine ⟨c, hc, hiff.trans ⟨fun e => ?_, fun e => ?_⟩⟩
  · have key : ∀ {x : Array Value} {l : Lit}, keyOf Tryd.prog 68 (.agg x) = some l → ∃ L, Tryd.prog.keyLits (Tryd.prog.types.size + 1) 68 x.toList = some L ∧ l = .string (keyBytes L) := by
      intro x l h
      unfold keyOf at h
      rw [Tryd.underlying68] at h
      simp only at h
      split at h
      · simp only [Option.map_eq_some_iff] at h
        obtain ⟨L, hl, rfl⟩ := h
        exact ⟨L, hl, rfl⟩
      · cases h
    obtain ⟨L1, k1, rfl⟩ := key h1
    obtain ⟨L2, k2, rfl⟩ := key h2
    have e2 : L1 = L2 := keyLits_inj k1 k2 (by simpa using e)
    have c1 := cells_of_lits (P := Tryd.prog) 4 68 (by kernel_rfl) _ _ _ k1
    have c2 := cells_of_lits (P := Tryd.prog) 4 68 (by kernel_rfl) _ _ _ k2
    rw [e2] at c1
    exact pl_inj (a := a) (b := b) (Array.toList_inj.1 (c1.trans c2.symm))
  · rw [pl_congr a b e] at h1
    rw [h1] at h2
    exact Option.some.inj h2
theorem run_eql_pl (a b : Nat) (r s : Nat → Nat) (ha : a ≤ 16) (hb : b ≤ 16) (hr : PlW r) (hs : PlW s) :
    ∃ c : Bool, (∀ w : World, (binOp .eql 68 (.agg (pl a b r)) (.agg (pl a b s))).run Tryd.prog w = .ok (.bool c) w) ∧ (c = true ↔ ∀ j, j < 24 → r j = s j) := by
  by_cases h : ∀ j, j < 24 → r j = s j
  · refine ⟨true, fun w => ?_, by simp [h]; exact h⟩
    obtain ⟨c, h1, h2⟩ := eql_pl a b r s w ha hb hr hs
    rw [h2.2 h] at h1
    simp [binOp, h1]
  · refine ⟨false, fun w => ?_, by simp [h]⟩
    obtain ⟨c, h1, h2⟩ := eql_pl a b r s w ha hb hr hs
    have hc : c = false := by cases c; rfl; exact absurd (h2.1 rfl) h
    rw [hc] at h1
    simp [binOp, h1]
end Go.Proofs.YtenbhnfajjknkaaDoor

/- Contracts of single functions, and plain lemmas, on which the exact laws of this seat rest; each holds under the conditions that it states. -/
namespace Go.Proofs.YtenbhnfajjknkaaDoor
set_option linter.unusedVariables false
open Go.RowKit

/-- a row of one's own has room for what it holds -/
theorem own_cap {W : World} {base s n : Nat} {e : TypeId} {v : Value} {xs : List Value} (h : W.ownsRow base e s v n xs) : ∀ ao m c, v = .slice ao m c → m ≤ c := by
  intro ao m c hv
  rcases h.2 with ⟨rfl, rfl⟩ | ⟨g, cap, cur, rfl, _, _, hc, _⟩
  · cases hv; exact Nat.le_refl _
  · cases hv; exact hc
theorem pxP_len (k : Nat) (ss : List ByteArray) (xs : List (Int × Int)) : (pxP k ss xs).length ≤ 16 := by
  cases h : pxOk ss xs with
  | false => rw [pxP_no h]; simp
  | true =>
    rw [pxP_yes h]
    unfold pxOk at h
    rw [Bool.and_eq_true] at h
    have V := vp_of h.1
    unfold mkPic
    simpa using V.n16
/-- both sides say the same of a picture and an element -/
theorem both_Dilate (ss : List ByteArray) (xs : List (Int × Int)) (hN : ss.length ≤ maxLen) (hz : ∀ s ∈ ss, s.size ≤ maxLen) (hM : xs.length ≤ 1048576) (hwf : ∀ p ∈ xs, (Lit.int .i64 p.1).wf = true ∧ (Lit.int .i64 p.2).wf = true) : ∃ (P : List ByteArray) (ok : Bool), P.length ≤ 16 ∧
    (∀ u v W, Sl W u ss → SlS W v xs → Calls Tryd.prog 13 #[.agg #[u], .agg #[v]] W (SaysPic P ok W)) ∧
    (∀ u v W, Sl W u ss → SlS W v xs → (∀ ao n c, v = .slice ao n c → n ≤ c) → ErrLen W → Calls Tryd.prog 16 #[.agg #[u], .agg #[v]] W (SaysPic P ok W)) :=
  ⟨pxP 0 ss xs, pxOk ss xs, pxP_len _ _ _, fun u v W hu hv => spec_Dilate u v ss xs W hN hz hu hM hv, fun u v W hu hv hc he => impl_Dilate u v ss xs W hN hz hu hM hwf hv hc he⟩
/-- both sides say the same of a picture and an element -/
theorem both_Erode (ss : List ByteArray) (xs : List (Int × Int)) (hN : ss.length ≤ maxLen) (hz : ∀ s ∈ ss, s.size ≤ maxLen) (hM : xs.length ≤ 1048576) (hwf : ∀ p ∈ xs, (Lit.int .i64 p.1).wf = true ∧ (Lit.int .i64 p.2).wf = true) : ∃ (P : List ByteArray) (ok : Bool), P.length ≤ 16 ∧
    (∀ u v W, Sl W u ss → SlS W v xs → Calls Tryd.prog 22 #[.agg #[u], .agg #[v]] W (SaysPic P ok W)) ∧
    (∀ u v W, Sl W u ss → SlS W v xs → (∀ ao n c, v = .slice ao n c → n ≤ c) → ErrLen W → Calls Tryd.prog 23 #[.agg #[u], .agg #[v]] W (SaysPic P ok W)) :=
  ⟨pxP 1 ss xs, pxOk ss xs, pxP_len _ _ _, fun u v W hu hv => spec_Erode u v ss xs W hN hz hu hM hv, fun u v W hu hv hc he => impl_Erode u v ss xs W hN hz hu hM hwf hv hc he⟩
/-- both sides say the same of a picture and an element -/
theorem both_Open (ss : List ByteArray) (xs : List (Int × Int)) (hN : ss.length ≤ maxLen) (hz : ∀ s ∈ ss, s.size ≤ maxLen) (hM : xs.length ≤ 1048576) (hwf : ∀ p ∈ xs, (Lit.int .i64 p.1).wf = true ∧ (Lit.int .i64 p.2).wf = true) : ∃ (P : List ByteArray) (ok : Bool), P.length ≤ 16 ∧
    (∀ u v W, Sl W u ss → SlS W v xs → Calls Tryd.prog 24 #[.agg #[u], .agg #[v]] W (SaysPic P ok W)) ∧
    (∀ u v W, Sl W u ss → SlS W v xs → (∀ ao n c, v = .slice ao n c → n ≤ c) → ErrLen W → Calls Tryd.prog 25 #[.agg #[u], .agg #[v]] W (SaysPic P ok W)) :=
  ⟨pxP 2 ss xs, pxOk ss xs, pxP_len _ _ _, fun u v W hu hv => spec_Open u v ss xs W hN hz hu hM hv, fun u v W hu hv hc he => impl_Open u v ss xs W hN hz hu hM hwf hv hc he⟩
/-- both sides say the same of a picture and an element -/
theorem both_Close (ss : List ByteArray) (xs : List (Int × Int)) (hN : ss.length ≤ maxLen) (hz : ∀ s ∈ ss, s.size ≤ maxLen) (hM : xs.length ≤ 1048576) (hwf : ∀ p ∈ xs, (Lit.int .i64 p.1).wf = true ∧ (Lit.int .i64 p.2).wf = true) : ∃ (P : List ByteArray) (ok : Bool), P.length ≤ 16 ∧
    (∀ u v W, Sl W u ss → SlS W v xs → Calls Tryd.prog 26 #[.agg #[u], .agg #[v]] W (SaysPic P ok W)) ∧
    (∀ u v W, Sl W u ss → SlS W v xs → (∀ ao n c, v = .slice ao n c → n ≤ c) → ErrLen W → Calls Tryd.prog 27 #[.agg #[u], .agg #[v]] W (SaysPic P ok W)) :=
  ⟨pxP 3 ss xs, pxOk ss xs, pxP_len _ _ _, fun u v W hu hv => spec_Close u v ss xs W hN hz hu hM hv, fun u v W hu hv hc he => impl_Close u v ss xs W hN hz hu hM hwf hv hc he⟩
end Go.Proofs.YtenbhnfajjknkaaDoor

/- Contracts of single functions, and plain lemmas, on which the exact laws of this seat rest; each holds under the conditions that it states. -/
namespace Go.Proofs.YtenbhnfajjknkaaDoor
set_option linter.unusedVariables false
set_option linter.unusedSimpArgs false
open Go.RowKit
attribute [local go_sem] Oper.semAt_some

/-- the plane that spreads -/
def SpR (m : Nat → Nat) (e8 : Bool) (xs : List (Int × Int)) (a b : Nat) (w : World) (e : Ending) (w' : World) : Prop :=
  ∃ r, PlW r ∧ (∀ X Y, plF r X Y = true ↔ Reach (plF m) (stepL e8) xs (X, Y)) ∧ e = .returned (.agg (pl a b r)) ∧ Below w.heap.size w w'

set_option maxHeartbeats 4000000 in
set_option maxRecDepth 100000 in
theorem spread_any (a b : Nat) (s m : Nat → Nat) (e8 : Bool) (xs : List (Int × Int)) (w : World) (ha : a ≤ 16) (hb : b ≤ 16) (hs : PlW s) (hm : PlW m)
    (hx : ∀ q : Int × Int, plF m q.1 q.2 = true → (q ∈ xs ↔ plF s q.1 q.2 = true)) :
    Calls Tryd.prog 76 #[.agg (pl a b s), .agg (pl a b m), .bool e8] w (SpR m e8 xs a b w) := by
  have HSt := Lib.hid (SpI.start e8 hs hm hx)
  have HMp := Lib.hid hm
  have HL := Lib.hid (nbL_pos e8)
  have HRg := Lib.hid (nbL_rng e8)
  obtain ⟨R0, hR0⟩ : ∃ P, pl a b (mgG 0 s m 24) = P := ⟨_, rfl⟩
  have HI4 : Hid ((Tryd.prog.info? 68).map (·.size) = some R0.size) := by show _ = _; rw [← hR0]; exact infoPl
  have HI5 : Hid (zerosP.size = R0.size) := by show _ = _; rw [← hR0]; rfl
  have HI6 : Hid (R0.all (·.oneCell') = true) := by show _ = _; rw [← hR0]; exact pl_one _ _ _
  have CM0 : Hid (∀ W, Calls Tryd.prog 63 #[.agg (pl a b s), .agg (pl a b m), .func (.func 64) #[.int .i64 0] #[]] W fun e w' => e = .returned (.agg R0) ∧ Below W.heap.size W w') := fun W => by
    rw [← hR0]
    exact merged_any 0 a b a b s m W (by omega) hs hm
  have CXa : Hid (∀ r, ∀ W, Calls Tryd.prog 63 #[.agg (pl a b (grG r (nbL e8))), .agg (pl a b m), .func (.func 64) #[.int .i64 0] #[]] W fun e w' => e = .returned (.agg (pl a b (nxG r m e8))) ∧ Below W.heap.size W w') := fun r W =>
    merged_any 0 a b a b _ m W (by omega) (mvA_plw _ _ _) hm
  have HEq : Hid (∀ r, SpI m e8 xs r → ∃ c : Bool, (∀ W : World, (binOp .eql 68 (.agg (pl a b (nxG r m e8))) (.agg (pl a b r))).run Tryd.prog W = .ok (.bool c) W) ∧ (c = true ↔ ∀ j, j < 24 → nxG r m e8 j = r j)) := fun r h => run_eql_pl a b _ _ ha hb (nx_plw _ _ _ hm) h.plw
  have HIr : Hid (∀ r : Nat → Nat, (Tryd.prog.info? 68).map (·.size) = some (pl a b r).size) := fun r => infoPl
  obtain ⟨S0, hS0⟩ : ∃ P, pl a b s = P := ⟨_, rfl⟩
  obtain ⟨M, hM⟩ : ∃ P, pl a b m = P := ⟨_, rfl⟩
  have HIS : Hid ((Tryd.prog.info? 68).map (·.size) = some S0.size) := by show _ = _; rw [← hS0]; exact infoPl
  have HIM : Hid ((Tryd.prog.info? 68).map (·.size) = some M.size) := by show _ = _; rw [← hM]; exact infoPl
  rw [hS0] at CM0 ⊢
  rw [hM] at CM0 CXa ⊢
  obtain ⟨W0, hW0⟩ : ∃ W0, ((w.alloc (.cells S0 68)).alloc (.cells M 68)).alloc (.cells #[.int .i64 0, .int .i64 0, .int .u32 0, .int .u32 0, .int .u32 0, .int .u32 0, .int .u32 0, .int .u32 0, .int .u32 0, .int .u32 0, .int .u32 0, .int .u32 0, .int .u32 0, .int .u32 0, .int .u32 0, .int .u32 0, .int .u32 0, .int .u32 0, .int .u32 0, .int .u32 0, .int .u32 0, .int .u32 0, .int .u32 0, .int .u32 0, .int .u32 0, .int .u32 0] 68) = W0 := ⟨_, rfl⟩
  have hz : zerosP = #[.int .i64 0, .int .i64 0, .int .u32 0, .int .u32 0, .int .u32 0, .int .u32 0, .int .u32 0, .int .u32 0, .int .u32 0, .int .u32 0, .int .u32 0, .int .u32 0, .int .u32 0, .int .u32 0, .int .u32 0, .int .u32 0, .int .u32 0, .int .u32 0, .int .u32 0, .int .u32 0, .int .u32 0, .int .u32 0, .int .u32 0, .int .u32 0, .int .u32 0, .int .u32 0] := rfl
  have hw0 : W0.heap.size = w.heap.size + 1 + 1 + 1 := by rw [← hW0]; simp
  have hb0 : Below w.heap.size w W0 := by rw [← hW0]; exact Joins.below_alloc3 _ _ _ _
  have hq0 : W0.heap[w.heap.size]? = some (.cells S0 68 (0, 0)) := by
    rw [← hW0, Below.heap_alloc _ _ _ (by simp; omega), Below.heap_alloc _ _ _ (by simp)]; exact heap_alloc_last w _
  have hd0 : W0.heap[w.heap.size + 1]? = some (.cells M 68 (0, 0)) := by
    rw [← hW0, Below.heap_alloc _ _ _ (by simp)]
    exact heap_alloc2_new _ _ _
  have hr0 : W0.heap[w.heap.size + 1 + 1]? = some (.cells zerosP 68 (0, 0)) := by
    rw [← hW0, hz]
    have := heap_alloc_last ((w.alloc (.cells S0 68)).alloc (.cells M 68)) (.cells #[.int .i64 0, .int .i64 0, .int .u32 0, .int .u32 0, .int .u32 0, .int .u32 0, .int .u32 0, .int .u32 0, .int .u32 0, .int .u32 0, .int .u32 0, .int .u32 0, .int .u32 0, .int .u32 0, .int .u32 0, .int .u32 0, .int .u32 0, .int .u32 0, .int .u32 0, .int .u32 0, .int .u32 0, .int .u32 0, .int .u32 0, .int .u32 0, .int .u32 0, .int .u32 0] 68)
    simpa only [World.size_alloc] using this
  have HW0 := Lib.hid hW0
  have HB0 := Lib.hid hb0
  have HS0 : Hid (∀ W, Below W0.heap.size W0 W → W.heap[w.heap.size]? = some (.cells S0 68 (0, 0))) := fun W hb => (hb.block _ (Array.getElem?_eq_some_iff.1 hq0).1).trans hq0
  have HM0 : Hid (∀ W, Below W0.heap.size W0 W → W.heap[w.heap.size + 1]? = some (.cells M 68 (0, 0))) := fun W hb => (hb.block _ (Array.getElem?_eq_some_iff.1 hd0).1).trans hd0
  have HZ0 : Hid (∀ W, Below W0.heap.size W0 W → W.heap[w.heap.size + 1 + 1]? = some (.cells zerosP 68 (0, 0))) := fun W hb => (hb.block _ (Array.getElem?_eq_some_iff.1 hr0).1).trans hr0
  have CN := Lib.hid (neighbourhood_any e8 W0)
  have HR0 := Lib.hid hR0
  have HMq := Lib.hid hM
  clear hR0 hS0 hM hW0 hz hb0 hq0 hd0 hr0 hx hs hm
  go_enter Tryd.func76, Tryd.ntmps76
  go_wp2_with (rw [HW0.out]; fail)
  rw [HW0.out]
  refine CN.out.mono ?_
  rintro e w1 ⟨ao, n, cap, rfl, hown, hb1⟩
  have hbA := Joins.below_alloc1 w1 (.cells #[.slice ao n cap] 36)
  have hsl : SlS (w1.alloc (.cells #[.slice ao n cap] 36)) (.slice ao n cap) (nbL e8) := (OwnS.sl hown).below hbA
  have hcap : ∀ ao' n' c, Value.slice ao n cap = .slice ao' n' c → n' ≤ c := own_cap hown
  have hv2 : (w1.alloc (.cells #[.slice ao n cap] 36)).cell? ⟨w1.heap.size, 0, none⟩ = some (.slice ao n cap) := cell_of_one (heap_alloc_last w1 _)
  have hb2 : Below W0.heap.size W0 (w1.alloc (.cells #[.slice ao n cap] 36)) := hb1.alloc hb1.size _
  obtain ⟨W2, hW2⟩ : ∃ W2, w1.alloc (.cells #[.slice ao n cap] 36) = W2 := ⟨_, rfl⟩
  obtain ⟨nb, hnb⟩ : ∃ nb, w1.heap.size = nb := ⟨_, rfl⟩
  rw [hW2] at hsl hv2 hb2 hbA
  rw [hnb] at hv2
  have HW2 : Hid (w1.alloc (.cells #[.slice ao n cap] 36) = W2) := hW2
  have HNb := Lib.hid hnb
  have HSl := Lib.hid hsl
  have HCap := Lib.hid hcap
  have HV2 : Hid (∀ W, Below W2.heap.size W2 W → W.cell? ⟨nb, 0, none⟩ = some (.slice ao n cap)) := fun W hb => cell_kept hb hv2
  have HB2 := Lib.hid hb2
  have hs2 := hb2.size
  have qS := Lib.hid (HS0.out W2 hb2)
  have qM := Lib.hid (HM0.out W2 hb2)
  clear hown hb1 hbA hsl hcap hv2 hb2 hW2 hnb
  go_upto_region 2 with fail
  rw [HW2.out, HNb.out]
  go_wp2_with (first | (refine wpList_load_row rfl 68 _ rfl w.heap.size rfl 68 S0 (0, 0) _ qS.out Tryd.underlying68 rfl HIS.out ?_) | (refine wpList_load_row rfl 68 _ rfl (w.heap.size + 1) rfl 68 M (0, 0) _ qM.out Tryd.underlying68 rfl HIM.out ?_))
  refine (CM0.out _).mono ?_
  rintro e w3 ⟨rfl, hb3⟩
  have hR := heap_alloc_last w3 (.cells R0 68)
  have hb4 : Below W2.heap.size W2 (w3.alloc (.cells R0 68)) := hb3.alloc hb3.size _
  obtain ⟨W4, hW4⟩ : ∃ W4, w3.alloc (.cells R0 68) = W4 := ⟨_, rfl⟩
  have hrl := hb3.size
  obtain ⟨rb, hrb⟩ : ∃ rb, w3.heap.size = rb := ⟨_, rfl⟩
  rw [hW4] at hR hb4
  rw [hrb] at hR hrl
  have HW4 := Lib.hid hW4
  have HRb := Lib.hid hrb
  have HR4 := Lib.hid hR
  have HB4 := Lib.hid hb4
  clear hb3 hR hb4 hW4 hrb
  go_wp2_with (refine wpList_store_new w3 rfl 68 _ _ rfl R0 rfl rfl 68 zerosP HI4.out HI5.out HI6.out ?_; rw [HW4.out, HRb.out])
  simp only [Act.put]
  go_loopw [] (fun wr => ∃ r, Hid (SpI m e8 xs r) ∧ wr.heap[rb]? = some (.cells (pl a b r) 68 (0, 0)) ∧ Below W2.heap.size W2 wr) (fun wr => 576 - cntC (cellsOfBlk wr rb))
  case atStart => exact ⟨_, HSt.out, by rw [HR0.out]; exact HR4.out, HB4.out⟩
  case round =>
    obtain ⟨r, HI, hr, hbel⟩ := hrel
    have hgp : PlW r := HI.out.plw
    have HCnt : Hid (cntC (cellsOfBlk wr rb) = cntG r) := by show _ = _; rw [cellsOfBlk_of hr, cntC_pl]
    have CG0 : Hid (∀ W, SlS W (.slice ao n cap) (nbL e8) → Calls Tryd.prog 45 #[.agg (pl a b r), .agg #[.slice ao n cap]] W fun e w' => e = .returned (.agg (pl a b (grG r (nbL e8)))) ∧ Below W.heap.size W w') := fun W h => grown_any81 a b r _ _ W hgp h HCap.out HL.out.1 HL.out.2 HRg.out
    have CX := Lib.hid (CXa.out r)
    obtain ⟨c, hc, hciff⟩ := HEq.out r HI.out
    obtain ⟨R, hRe⟩ : ∃ P, pl a b r = P := ⟨_, rfl⟩
    obtain ⟨NX, hNX⟩ : ∃ P, pl a b (nxG r m e8) = P := ⟨_, rfl⟩
    obtain ⟨GR, hGR⟩ : ∃ P, pl a b (grG r (nbL e8)) = P := ⟨_, rfl⟩
    have HIR : Hid ((Tryd.prog.info? 68).map (·.size) = some R.size) := by show _ = _; rw [← hRe]; exact infoPl
    have HIN : Hid ((Tryd.prog.info? 68).map (·.size) = some NX.size) := by show _ = _; rw [← hNX]; exact infoPl
    have HZN : Hid (Array.size (α := Value) #[.int .i64 0, .int .i64 0, .int .u32 0, .int .u32 0, .int .u32 0, .int .u32 0, .int .u32 0, .int .u32 0, .int .u32 0, .int .u32 0, .int .u32 0, .int .u32 0, .int .u32 0, .int .u32 0, .int .u32 0, .int .u32 0, .int .u32 0, .int .u32 0, .int .u32 0, .int .u32 0, .int .u32 0, .int .u32 0, .int .u32 0, .int .u32 0, .int .u32 0, .int .u32 0] = NX.size) := by show _ = _; rw [← hNX]; rfl
    have HON : Hid (NX.all (·.oneCell') = true) := by show _ = _; rw [← hNX]; exact pl_one _ _ _
    have HZR : Hid (R.size = NX.size) := by show _ = _; rw [← hNX, ← hRe]; rfl
    have HOR : Hid (R.all (·.oneCell') = true) := by show _ = _; rw [← hRe]; exact pl_one _ _ _
    have HZZ : Hid (zerosP.size = R.size) := by show _ = _; rw [← hRe]; rfl
    rw [hRe] at hr CG0 hc
    rw [hNX] at CX hc
    rw [hGR] at CX CG0
    have HNX := Lib.hid hNX
    have HRe := Lib.hid hRe
    have HB3 := Lib.hid hbel
    have HRr := Lib.hid hr
    have lr : rb < wr.heap.size := (Array.getElem?_eq_some_iff.1 hr).1
    have HR3 : Hid (∀ W, Below wr.heap.size wr W → W.heap[rb]? = some (.cells R 68 (0, 0))) := fun W hb => (hb.block _ (Array.getElem?_eq_some_iff.1 hr).1).trans hr
    have HM3 : Hid (∀ W, Below wr.heap.size wr W → W.heap[w.heap.size + 1]? = some (.cells M 68 (0, 0))) := fun W hb => HM0.out W (HB2.out.trans ((hbel.trans (hb.mono hbel.size)).mono hs2))
    have HV3 : Hid (∀ W, Below wr.heap.size wr W → W.cell? ⟨nb, 0, none⟩ = some (.slice ao n cap)) := fun W hb => HV2.out W (hbel.trans (hb.mono hbel.size))
    have CG : Hid (∀ W, Below wr.heap.size wr W → Calls Tryd.prog 45 #[.agg R, .agg #[.slice ao n cap]] W fun e w' => e = .returned (.agg GR) ∧ Below W.heap.size W w') := fun W hb => CG0.out W (HSl.out.below (hbel.trans (hb.mono hbel.size)))
    have HCq := Lib.hid hc
    have HCi := Lib.hid hciff
    clear hr hbel hc hciff hRe hNX hGR CG0 hgp HEq CXa
    go_upto_region 3 with fail
    refine wp_region_inv_at (by kernel_rfl) (fun A0 L A W => ∃ (b0 b1 b2 b3 b4 b5 b6 b7 : Bool) (v16 v17 v18 v19 v20 v21 v9 : Value), L = #[b0, b1, b2, b3, b4, b5, b6, b7] ∧ A = (((((((A0.put (some 16) v16).put (some 17) v17).put (some 18) v18).put (some 19) v19).put (some 20) v20).put (some 21) v21).put (some 9) v9) ∧ (Below wr.heap.size wr W) ∧ Hid (b0 = true → v16 = .agg R) ∧ Hid (b1 = true → v17 = .agg #[.slice ao n cap]) ∧ Hid (b2 = true → v18 = .agg GR) ∧ Hid (b3 = true → v19 = .agg M) ∧ Hid (b4 = true → v20 = .func (.func 64) #[.int .i64 0] #[]) ∧ Hid (b5 = true → v21 = .agg NX) ∧ Hid (b6 = true → ∃ mb, v9 = .pointer (some ⟨mb, 0, none⟩) ∧ wr.heap.size ≤ mb ∧ W.heap[mb]? = some (.cells (if b7 = true then NX else #[.int .i64 0, .int .i64 0, .int .u32 0, .int .u32 0, .int .u32 0, .int .u32 0, .int .u32 0, .int .u32 0, .int .u32 0, .int .u32 0, .int .u32 0, .int .u32 0, .int .u32 0, .int .u32 0, .int .u32 0, .int .u32 0, .int .u32 0, .int .u32 0, .int .u32 0, .int .u32 0, .int .u32 0, .int .u32 0, .int .u32 0, .int .u32 0, .int .u32 0, .int .u32 0]) 68 (0, 0))) ∧ Hid (b6 = false → b7 = false)) ?_ ?_ ?_
    · intro A0
      refine ⟨false, false, false, false, false, false, false, false, A0.tmps.getD 16 undef, A0.tmps.getD 17 undef, A0.tmps.getD 18 undef, A0.tmps.getD 19 undef, A0.tmps.getD 20 undef, A0.tmps.getD 21 undef, A0.tmps.getD 9 undef, rfl, (by simp only [put_self]), (Below.refl _ _).drew, Lib.hid (fun hf => by cases hf), Lib.hid (fun hf => by cases hf), Lib.hid (fun hf => by cases hf), Lib.hid (fun hf => by cases hf), Lib.hid (fun hf => by cases hf), Lib.hid (fun hf => by cases hf), Lib.hid (fun hf => by cases hf), Lib.hid (fun _ => rfl)⟩
    · intro L A W hI i hi o ho K' hK
      have hlt := (ready_left hi).1
      have hun := (ready_left hi).2
      have haf := ready_after hi ho
      clear hi
      obtain ⟨b0, b1, b2, b3, b4, b5, b6, b7, v16, v17, v18, v19, v20, v21, v9, rfl, rfl, hB, h0, h1, h2, h3, h4, h5, h6, n6⟩ := hI
      have hc : i = 0 ∨ i = 1 ∨ i = 2 ∨ i = 3 ∨ i = 4 ∨ i = 5 ∨ i = 6 ∨ i = 7 := by
        simp at hlt
        omega
      have qR := HR3.out W hB
      have qM := HM3.out W hB
      have qv := HV3.out W hB
      rcases hc with rfl | rfl | rfl | rfl | rfl | rfl | rfl | rfl
      all_goals (obtain rfl := Option.some.inj ho; clear ho; simp [Region.binds] at haf hun; (try simp only [List.getElem_toArray, List.getElem_cons_zero, List.getElem_cons_succ]); simp only [Act.put, List.setIfInBounds_toArray, List.set_cons_zero, List.set_cons_succ])
      · -- operation 0
        replace hK := Lib.hid hK
        subst hun
        rw [if_pos (by simp [Region.wanted])]
        refine wp_load_row 68 _ rfl rb rfl 68 R (0, 0) _ qR Tryd.underlying68 rfl HIR.out ?_
        exact hK.out _ _ ⟨true, b1, b2, b3, b4, b5, b6, b7, .agg R, v17, v18, v19, v20, v21, v9, rfl, (by simp only [Act.put, List.setIfInBounds_toArray, List.set_cons_zero, List.set_cons_succ]), hB, Lib.hid (fun _ => rfl), h1, h2, h3, h4, h5, h6, n6⟩
      · -- operation 1
        replace hK := Lib.hid hK
        subst hun
        go_simp
        exact hK.out _ _ ⟨b0, true, b2, b3, b4, b5, b6, b7, v16, .agg #[.slice ao n cap], v18, v19, v20, v21, v9, rfl, (by simp only [Act.put, List.setIfInBounds_toArray, List.set_cons_zero, List.set_cons_succ]), hB, h0, Lib.hid (fun _ => rfl), h2, h3, h4, h5, h6, n6⟩
      · -- operation 2
        replace hK := Lib.hid hK
        obtain rfl := h0.out (by simp only [haf])
        obtain rfl := h1.out (by simp only [haf])
        subst hun
        go_simp
        refine (CG.out _ hB).mono ?_
        rintro e W' ⟨rfl, hb⟩
        have hkept := fun kb (hk : kb < W.heap.size) => hb.block kb hk
        exact hK.out _ _ ⟨b0, b1, true, b3, b4, b5, b6, b7, .agg R, .agg #[.slice ao n cap], .agg GR, v19, v20, v21, v9, rfl, (by simp only [Act.put, List.setIfInBounds_toArray, List.set_cons_zero, List.set_cons_succ]), hB.trans (hb.mono hB.size), Lib.hid (fun _ => rfl), Lib.hid (fun _ => rfl), Lib.hid (fun _ => rfl), h3, h4, h5, Lib.hid (fun hx => by obtain ⟨kb, e1, e2, e3⟩ := h6.out hx; exact ⟨kb, e1, e2, (hkept kb (Array.getElem?_eq_some_iff.1 e3).1).trans e3⟩), n6⟩
      · -- operation 3
        replace hK := Lib.hid hK
        subst hun
        rw [if_pos (by simp [Region.wanted])]
        refine wp_load_row 68 _ rfl (w.heap.size + 1) rfl 68 M (0, 0) _ qM Tryd.underlying68 rfl HIM.out ?_
        exact hK.out _ _ ⟨b0, b1, b2, true, b4, b5, b6, b7, v16, v17, v18, .agg M, v20, v21, v9, rfl, (by simp only [Act.put, List.setIfInBounds_toArray, List.set_cons_zero, List.set_cons_succ]), hB, h0, h1, h2, Lib.hid (fun _ => rfl), h4, h5, h6, n6⟩
      · -- operation 4
        replace hK := Lib.hid hK
        subst hun
        go_simp
        exact hK.out _ _ ⟨b0, b1, b2, b3, true, b5, b6, b7, v16, v17, v18, v19, .func (.func 64) #[.int .i64 0] #[], v21, v9, rfl, (by simp only [Act.put, List.setIfInBounds_toArray, List.set_cons_zero, List.set_cons_succ]), hB, h0, h1, h2, h3, Lib.hid (fun _ => rfl), h5, h6, n6⟩
      · -- operation 5
        replace hK := Lib.hid hK
        obtain rfl := h2.out (by simp only [haf])
        obtain rfl := h3.out (by simp only [haf])
        obtain rfl := h4.out (by simp only [haf])
        subst hun
        go_simp
        refine (CX.out _).mono ?_
        rintro e W' ⟨rfl, hb⟩
        have hkept := fun kb (hk : kb < W.heap.size) => hb.block kb hk
        exact hK.out _ _ ⟨b0, b1, b2, b3, b4, true, b6, b7, v16, v17, .agg GR, .agg M, .func (.func 64) #[.int .i64 0] #[], .agg NX, v9, rfl, (by simp only [Act.put, List.setIfInBounds_toArray, List.set_cons_zero, List.set_cons_succ]), hB.trans (hb.mono hB.size), h0, h1, Lib.hid (fun _ => rfl), Lib.hid (fun _ => rfl), Lib.hid (fun _ => rfl), Lib.hid (fun _ => rfl), Lib.hid (fun hx => by obtain ⟨kb, e1, e2, e3⟩ := h6.out hx; exact ⟨kb, e1, e2, (hkept kb (Array.getElem?_eq_some_iff.1 e3).1).trans e3⟩), n6⟩
      · -- operation 6
        replace hK := Lib.hid hK
        subst hun
        have hbs : b7 = false := n6.out rfl
        subst hbs
        go_simp
        have hkept := fun kb (hk : kb < W.heap.size) => Below.heap_alloc W (.cells #[.int .i64 0, .int .i64 0, .int .u32 0, .int .u32 0, .int .u32 0, .int .u32 0, .int .u32 0, .int .u32 0, .int .u32 0, .int .u32 0, .int .u32 0, .int .u32 0, .int .u32 0, .int .u32 0, .int .u32 0, .int .u32 0, .int .u32 0, .int .u32 0, .int .u32 0, .int .u32 0, .int .u32 0, .int .u32 0, .int .u32 0, .int .u32 0, .int .u32 0, .int .u32 0] 68) kb hk
        have hb := Joins.below_alloc1 W (.cells #[.int .i64 0, .int .i64 0, .int .u32 0, .int .u32 0, .int .u32 0, .int .u32 0, .int .u32 0, .int .u32 0, .int .u32 0, .int .u32 0, .int .u32 0, .int .u32 0, .int .u32 0, .int .u32 0, .int .u32 0, .int .u32 0, .int .u32 0, .int .u32 0, .int .u32 0, .int .u32 0, .int .u32 0, .int .u32 0, .int .u32 0, .int .u32 0, .int .u32 0, .int .u32 0] 68)
        exact hK.out _ _ ⟨b0, b1, b2, b3, b4, b5, true, false, v16, v17, v18, v19, v20, v21, .pointer (some ⟨W.heap.size, 0, none⟩), rfl, (by simp only [Act.put, List.setIfInBounds_toArray, List.set_cons_zero, List.set_cons_succ]), hB.alloc hB.size _, h0, h1, h2, h3, h4, h5, Lib.hid (fun _ => ⟨_, rfl, hB.size, heap_alloc_last W _⟩), Lib.hid (fun hf => by cases hf)⟩
      · -- operation 7
        replace hK := Lib.hid hK
        obtain rfl := h5.out (by simp only [haf])
        obtain ⟨mb, rfl, hmb, hm2⟩ := h6.out (by simp only [haf])
        subst hun
        simp only [Bool.false_eq_true, if_false] at hm2
        rw [if_pos (by simp [Region.wanted])]
        refine wp_store_row 68 _ _ rfl mb NX rfl rfl 68 (#[.int .i64 0, .int .i64 0, .int .u32 0, .int .u32 0, .int .u32 0, .int .u32 0, .int .u32 0, .int .u32 0, .int .u32 0, .int .u32 0, .int .u32 0, .int .u32 0, .int .u32 0, .int .u32 0, .int .u32 0, .int .u32 0, .int .u32 0, .int .u32 0, .int .u32 0, .int .u32 0, .int .u32 0, .int .u32 0, .int .u32 0, .int .u32 0, .int .u32 0, .int .u32 0]) hm2 HIN.out HZN.out HON.out ?_
        have hnew : (W.setRow mb NX).heap[mb]? = some (.cells NX 68 (0, 0)) := setRow_heap _ _ _ _ _ _ hm2
        have hBn := setRow_below hB hmb NX
        have hoth : ∀ kb, kb ≠ mb → (W.setRow mb NX).heap[kb]? = W.heap[kb]? := fun kb hk => setRow_other W mb kb NX hk
        exact hK.out _ _ ⟨b0, b1, b2, b3, b4, b5, b6, true, v16, v17, v18, v19, v20, .agg NX, .pointer (some ⟨mb, 0, none⟩), rfl, (by simp only [Act.put, List.setIfInBounds_toArray, List.set_cons_zero, List.set_cons_succ]), hBn, h0, h1, h2, h3, h4, Lib.hid (fun _ => rfl), Lib.hid (fun _ => ⟨mb, rfl, hmb, hnew⟩), Lib.hid (fun hf => absurd (show false = true from hf.symm.trans (by simp only [haf])) (by decide))⟩
    intro L A W hI hr
    obtain ⟨b0, b1, b2, b3, b4, b5, b6, b7, v16, v17, v18, v19, v20, v21, v9, rfl, rfl, hB, h0, h1, h2, h3, h4, h5, h6, n6⟩ := hI
    have d0 := ready_done hr 0 _ rfl (by simp [Region.binds])
    have d1 := ready_done hr 1 _ rfl (by simp [Region.binds])
    have d3 := ready_done hr 3 _ rfl (by simp [Region.binds])
    have d4 := ready_done hr 4 _ rfl (by simp [Region.binds])
    have d6 := ready_done hr 6 _ rfl (by simp [Region.binds])
    simp at d0 d1 d3 d4 d6
    subst d0 d1 d3 d4 d6
    have d2 := ready_done hr 2 _ rfl (by simp [Region.binds])
    simp at d2
    subst d2
    have d5 := ready_done hr 5 _ rfl (by simp [Region.binds])
    simp at d5
    subst d5
    have d7 := ready_done hr 7 _ rfl (by simp [Region.binds])
    simp at d7
    subst d7
    obtain rfl := h0.out rfl
    obtain rfl := h1.out rfl
    obtain rfl := h2.out rfl
    obtain rfl := h3.out rfl
    obtain rfl := h4.out rfl
    obtain rfl := h5.out rfl
    obtain ⟨mb6, rfl, hmb6, hm6⟩ := h6.out rfl
    simp only [Act.put, List.setIfInBounds_toArray, List.set_cons_zero, List.set_cons_succ]
    clear hr h0 h1 h2 h3 h4 h5 h6 n6
    have HN := Lib.hid hm6
    have HNl := Lib.hid hmb6
    have HB := Lib.hid hB
    clear hm6 hmb6 hB
    have hbn := HB.out
    have HBn := Lib.hid (HB3.out.trans (hbn.mono HB3.out.size))
    have HRn := Lib.hid (HR3.out W HB.out)
    have HZn := Lib.hid (HZ0.out W (HB2.out.trans (HBn.out.mono hs2)))
    have HBw := Lib.hid (HB0.out.trans ((HB2.out.trans (HBn.out.mono hs2)).mono HB0.out.size))
    have hcq := HCq.out
    clear hbn
    cases c with
    | true =>
      have hall := HCi.out.1 rfl
      have HD := Lib.hid (HI.out.done HMp.out (fun X Y h => by rw [plF_congr hall] at h; exact h))
      have HPl := Lib.hid HI.out.plw
      clear hall HR3 HM3 HV3 CG CX
      go_wp2_with (first | (refine wpList_load_row rfl 68 _ rfl mb6 rfl 68 NX (0, 0) _ HN.out Tryd.underlying68 rfl HIN.out ?_) | (refine wpList_load_row rfl 68 _ rfl rb rfl 68 R (0, 0) _ HRn.out Tryd.underlying68 rfl HIR.out ?_) | (refine wpList_store_row rfl 68 _ _ rfl (w.heap.size + 1 + 1) R rfl rfl 68 zerosP HZn.out HIR.out HZZ.out HOR.out ?_))
      exact bodyPost_ret (results_cell1 (p := 6) (ty := 68) Tryd.results76 _ _ (w.heap.size + 1 + 1) 68 R (0, 0) _ rfl (setRow_heap _ _ _ _ _ _ HZn.out) Tryd.underlying68 rfl HIR.out) rfl ⟨r, HPl.out, HD.out, by rw [HRe.out], setRow_below HBw.out (by omega) _⟩
    | false =>
      have hne : ¬ ∀ j, j < 24 → nxG r m e8 j = r j := fun h => absurd (HCi.out.2 h) (by decide)
      have HMo := Lib.hid (HI.out.more HMp.out hne)
      have HNx := Lib.hid (HI.out.next HMp.out)
      have HLe := Lib.hid (cntG_le (nxG r m e8))
      clear hne HR3 HM3 HV3 CG CX
      go_wp2_with (first | (refine wpList_load_row rfl 68 _ rfl mb6 rfl 68 NX (0, 0) _ HN.out Tryd.underlying68 rfl HIN.out ?_) | (refine wpList_load_row rfl 68 _ rfl rb rfl 68 R (0, 0) _ HRn.out Tryd.underlying68 rfl HIR.out ?_) | (refine wpList_store_row rfl 68 _ _ rfl rb NX rfl rfl 68 R HRn.out HIN.out HZR.out HON.out ?_))
      have HRs : Hid ((W.setRow rb NX).heap[rb]? = some (.cells NX 68 (0, 0))) := setRow_heap _ _ _ _ _ _ HRn.out
      go_roundw
      case rel => exact ⟨_, HNx.out, by rw [HNX.out]; exact HRs.out, setRow_below HBn.out hrl _⟩
      case measure =>
        rw [cellsOfBlk_of HRs.out, HCnt.out, ← HNX.out, cntC_pl]
        have := HMo.out
        have := HLe.out
        omega
end Go.Proofs.YtenbhnfajjknkaaDoor
