/- Contracts of single functions, and plain lemmas, on which the exact laws of this seat rest; each holds under the conditions that it states. -/
import Derived.Test.YthblhibkbcmbaaaDoorCVB
import Derived.Test.YthblhibkbcmbaaaDoorGN
namespace Go.Proofs.YthblhibkbcmbaaaDoor
set_option linter.unusedVariables false
set_option linter.unusedSimpArgs false
open Go.RowKit Go.Shelf
attribute [local go_sem] Oper.semAt_some

/-! ### a row is made, inside a fence -/
theorem wpListIn_make_full {F : Fence} {q : Nat} {P : Program} (w : World) {ops : Array Oper} {rest : List Oper} {o : Oper} {a : Act} {Q : Exit → Act → World → Prop}
    (hg : o.guard = none) (l c : Operand) (t : TypeId) (hop : o.op = Op.makeSlice t l c)
    (base : Nat) (e : TypeId) (i : TypeInfo) (z : Value) (size : Nat) (h1 : P.underlying t = some (.slice e)) (h2 : P.info? e = some i) (h3 : i.zero = some z) (h4 : i.size = size)
    (kl kc : IntKind) (L C : Int) (n : Nat) (hl : a.eval l = .int kl L) (hc : a.eval c = .int kc C) (hL : L = (n : Int)) (hC : C = (n : Int)) (b2 : i.bytes * n ≤ 281474976710656) (b3 : n ≤ maxLen) (b4 : base ≤ w.heap.size)
    (hK : ∀ w', w'.ownsRow base e size (.slice (some ⟨w.heap.size, 0, none⟩) n n) n (madeCells z.cells (n * size)).toList → w.grownBy w' none → wpListIn F q P ops Q rest (a.put o.dst (.slice (some ⟨w.heap.size, 0, none⟩) n n)) w') :
    wpListIn F q P ops Q (o :: rest) a w := by
  refine wpListIn_plain hg fun K hK' => ?_
  obtain ⟨w', hrun, r1, r2⟩ := run_make_full (P := P) w base t e i z size h1 h2 h3 h4 kl kc n b2 b3 b4
  subst hL
  subst hC
  refine ⟨fun f hf => by simp [Oper.about, hop] at hf, ?_⟩
  rw [semAt_plain F.round a.eval (by intro c; rw [hop]; simp)]
  simp [execOp, hop, hl, hc, hrun, Result.andThen]
  exact hK' _ _ (hK w' r1 r2)

theorem len_wrap {n : Nat} (hn : n ≤ 4) : wrap64 (2 ^ (2 * n)) = ((2 ^ n * 2 ^ n : Nat) : Int) := by
  rcases (by omega : n = 0 ∨ n = 1 ∨ n = 2 ∨ n = 3 ∨ n = 4) with rfl | rfl | rfl | rfl | rfl <;> decide +kernel
theorem length_any (c n : Nat) (w : World) (hn : n ≤ 4) : Calls Tryd.prog 74 #[.agg #[.int .i64 (c : Int), .int .i64 (n : Int)]] w (fun e w' => e = .returned (.int .i64 ((2 ^ n * 2 ^ n : Nat) : Int)) ∧ Below w.heap.size w w') := by
  have HL := Lib.hid (len_wrap hn)
  obtain ⟨N, hN⟩ : ∃ N, 2 ^ n * 2 ^ n = N := ⟨_, rfl⟩
  rw [hN] at HL ⊢
  have hp0 := heap_alloc_last w (.cells #[.int .i64 (c : Int), .int .i64 (n : Int)] 66)
  have c1 : (w.alloc (.cells #[.int .i64 (c : Int), .int .i64 (n : Int)] 66)).cell? ⟨w.heap.size, 1, none⟩ = some (.int .i64 (n : Int)) := by rw [Joins.cell_of_block hp0 1]; rfl
  have B0 := Lib.hid (Joins.below_alloc1 w (.cells #[.int .i64 (c : Int), .int .i64 (n : Int)] 66))
  have k1 : (0 : Int) ≤ (n : Int) := by omega
  have k2 : (n : Int) ≤ 4 := by omega
  have k3 : IntKind.i64.wrap (2 * (n : Int)) = 2 * (n : Int) := IntWalk.i64_in _ (by omega)
  clear hp0 hN
  go_enter Tryd.func74, Tryd.ntmps74
  go_wp2
  go_ret
  exact ⟨ret_int HL.out, B0.out⟩

/-! ### the spots stored so far -/
def sF (c n : Nat) {P : Int × Int → Prop} (pre : List { q : Int × Int // P q }) : List (Int × Int) := pre.foldl (fun L q => L.set (ixS c n q.1.1.toNat q.1.2.toNat).toNat q.1) (List.replicate (2 ^ n * 2 ^ n) (0, 0))
theorem sF_snoc (c n : Nat) {P : Int × Int → Prop} (pre : List { q : Int × Int // P q }) (xe : { q : Int × Int // P q }) : sF c n (pre ++ [xe]) = (sF c n pre).set (ixS c n xe.1.1.toNat xe.1.2.toNat).toNat xe.1 := by
  unfold sF
  rw [List.foldl_append]
  rfl
theorem sF_len (c n : Nat) {P : Int × Int → Prop} (pre : List { q : Int × Int // P q }) : (sF c n pre).length = 2 ^ n * 2 ^ n := by
  have : ∀ (pre : List { q : Int × Int // P q }) (L : List (Int × Int)), (pre.foldl (fun L q => L.set (ixS c n q.1.1.toNat q.1.2.toNat).toNat q.1) L).length = L.length := by
    intro pre
    induction pre with
    | nil => intro L; rfl
    | cons a t ih => intro L; rw [List.foldl_cons, ih, List.length_set]
  unfold sF
  rw [this, List.length_replicate]
theorem sF_grid (c n : Nat) (h1 : 1 ≤ 2 ^ n) : ∀ k, k ≤ 2 ^ n * 2 ^ n → sF c n ((gGrid (2 ^ n) (2 ^ n) h1 h1).list k) = cvL c n k
  | 0, _ => rfl
  | k + 1, hk => by
    have e : (gGrid (2 ^ n) (2 ^ n) h1 h1).list (k + 1) = (gGrid (2 ^ n) (2 ^ n) h1 h1).list k ++ [(gGrid (2 ^ n) (2 ^ n) h1 h1).at k] := by
      unfold Grid.list
      rw [List.range_succ, List.map_append]
      rfl
    rw [e, sF_snoc, sF_grid c n h1 k (by omega)]
    have d : k / 2 ^ n < 2 ^ n := Nat.div_lt_of_lt_mul (by omega)
    have hx : ((gGrid (2 ^ n) (2 ^ n) h1 h1).at k).1 = (((k % 2 ^ n : Nat) : Int), ((k / 2 ^ n : Nat) : Int)) := by
      refine Prod.ext ?_ ?_
      · show ((k % 2 ^ n : Nat) : Int) - ((0 : Nat) : Int) = _
        simp
      · show ((k / 2 ^ n % 2 ^ n : Nat) : Int) - ((0 : Nat) : Int) = _
        rw [Nat.mod_eq_of_lt d]
        simp
    rw [hx]
    rfl
theorem ownS_from {β : Type} (lo B rb N : Nat) (f : β → List Value) (hrb : rb < B) : OwnFrom B (fun (s : β) W => W.ownsRow lo 76 2 (.slice (some ⟨rb, 0, none⟩) N N) N (f s)) := fun s W W' row h hg hr => own_keep h fun k e => by
  have hk : k = rb := by
    simp [Value.ownBlock] at e
    omega
  subst hk
  exact hg.block k (h.lt k rfl).2 (fun e2 => by have := (hr k e2.symm).1; omega)

set_option maxRecDepth 100000 in
set_option maxHeartbeats 4000000 in
theorem spots_made (c n : Nat) (w : World) (hc : c < 4) (hn : n ≤ 4) (hQ : QvP w) : Calls Tryd.prog 62 #[.agg #[.int .i64 (c : Int), .int .i64 (n : Int)]] w (TookSpots w (cvF c n)) := by
  refine (callsIn_wide (n := 6)).1 ?_
  obtain ⟨i0, hi, hz0, hz1, hz2⟩ := info_parts infoSp
  have h16 := pow_le16 hn
  have h1 : 1 ≤ 2 ^ n := Nat.one_le_two_pow
  have hb1 := Joins.below_alloc1 w (.cells #[.int .i64 (c : Int), .int .i64 (n : Int)] 66)
  have CL : Hid (∀ W, Calls Tryd.prog 74 #[.agg #[.int .i64 (c : Int), .int .i64 (n : Int)]] W (fun e w' => e = .returned (.int .i64 ((2 ^ n * 2 ^ n : Nat) : Int)) ∧ Below W.heap.size W w')) := fun W => length_any c n W hn
  have CQ := Lib.hid (fun W => square_any (c : Int) (n : Int) W (by omega) (by omega))
  rw [sq_mat] at CQ
  have CI : Hid (∀ (x y : Nat), x < 2 ^ n → y < 2 ^ n → ∃ j : Nat, j < 2 ^ n * 2 ^ n ∧ (ixS c n x y).toNat = j ∧ ∀ W, Below w.heap.size w W → Calls Tryd.prog 76 #[.agg #[.int .i64 (c : Int), .int .i64 (n : Int)], .agg #[.int .i64 (x : Int), .int .i64 (y : Int)]] W (fun e w' => e = .returned (.int .i64 (j : Int)) ∧ Below W.heap.size W w')) := fun x y hx hy => by
    have hb := ixS_lt c hc n (by omega) x hx y hy
    obtain ⟨q, hq⟩ : ∃ q, 2 ^ n * 2 ^ n = q := ⟨_, rfl⟩
    have hq2 : (2 : Int) ^ n * 2 ^ n = (q : Int) := by rw [← hq]; push_cast; rfl
    rw [hq2] at hb
    refine ⟨(ixS c n x y).toNat, by omega, rfl, fun W hbw => ?_⟩
    have e : ((ixS c n x y).toNat : Int) = ixI c n x y := by rw [ixI_eq c hc n (by omega) x hx y hy]; omega
    rw [e]
    exact index_any c n x y W hc hn hx hy (hQ.below hbw)
  have HSn := Lib.hid (fun pre xe => @sF_snoc c n (InG (2 ^ n) (2 ^ n)) pre xe)
  have HLn := Lib.hid (fun pre => @sF_len c n (InG (2 ^ n) (2 ^ n)) pre)
  have HEnd : Hid (sF c n ((gGrid (2 ^ n) (2 ^ n) h1 h1).list (2 ^ n * 2 ^ n)) = cvF c n) := sF_grid c n h1 _ (Nat.le_refl _)
  have HLf := Lib.hid (cvF_len c n)
  have H0 : Hid (sF c n ([] : List { q : Int × Int // InG (2 ^ n) (2 ^ n) q }) = List.replicate (2 ^ n * 2 ^ n) (0, 0)) := rfl
  obtain ⟨f, hf⟩ : ∃ f : List { q : Int × Int // InG (2 ^ n) (2 ^ n) q } → List (Int × Int), (fun pre => sF c n pre) = f := ⟨_, rfl⟩
  have HSn2 : Hid (∀ pre xe, f (pre ++ [xe]) = (f pre).set (ixS c n xe.1.1.toNat xe.1.2.toNat).toNat xe.1) := fun pre xe => by rw [← hf]; exact HSn.out pre xe
  have HLn2 : Hid (∀ pre, (f pre).length = 2 ^ n * 2 ^ n) := fun pre => by rw [← hf]; exact HLn.out pre
  have HEnd2 : Hid (f ((gGrid (2 ^ n) (2 ^ n) h1 h1).list (2 ^ n * 2 ^ n)) = cvF c n) := by show _ = _; rw [← hf]; exact HEnd.out
  have H02 : Hid (f [] = List.replicate (2 ^ n * 2 ^ n) (0, 0)) := by show _ = _; rw [← hf]; exact H0.out
  clear HSn HLn HEnd H0 hf hQ
  unfold TookSpots
  rw [HLf.out]
  obtain ⟨F, hF⟩ : ∃ F, cvF c n = F := ⟨_, rfl⟩
  rw [hF] at HEnd2 HLf ⊢
  obtain ⟨M, hM⟩ : ∃ M, mat (2 ^ n) (2 ^ n) (fun _ => 0) = M := ⟨_, rfl⟩
  have hsz : M.size = 18 := by rw [← hM]; rfl
  rw [hM] at CQ
  have hM2 : ∀ (W : World) (g : Nat), W.heap[g]? = some (.cells M 59 (0, 0)) → W.cell? ⟨g, 0, none⟩ = some (.int .i64 ((2 ^ n : Nat) : Int)) ∧ W.cell? ⟨g, 1, none⟩ = some (.int .i64 ((2 ^ n : Nat) : Int)) := fun W g h => by
    rw [← hM] at h
    exact ⟨by rw [Joins.cell_of_block h 0]; rfl, by rw [Joins.cell_of_block h 1]; rfl⟩
  clear hF hM
  obtain ⟨N, hN⟩ : ∃ N, 2 ^ n * 2 ^ n = N := ⟨_, rfl⟩
  have hN256 : N ≤ 256 := by rw [← hN]; exact Nat.mul_le_mul h16 h16
  have HNh := Lib.hid hN
  rw [hN] at CL CI HLn2 HEnd2 HLf H02 ⊢
  clear hN
  have q0 : Blk (w.alloc (.cells #[.int .i64 (c : Int), .int .i64 (n : Int)] 66)) w.heap.size #[.int .i64 (c : Int), .int .i64 (n : Int)] 66 := heap_alloc_last w _
  refine callsIn_of_wp_marks Tryd.func62 rfl trivial ?_ rfl
  simp only [Tryd.ntmps62, List.size_toArray, List.length_cons, List.length_nil, Nat.reduceAdd, Nat.reduceSub, Array.replicate_succ, Array.replicate_zero, List.push_toArray, List.append_toArray, List.nil_append, List.cons_append]
  have q0a : (w.alloc (.cells #[.int .i64 (c : Int), .int .i64 (n : Int)] 66)).cell? ⟨w.heap.size, 0, none⟩ = some (.int .i64 (c : Int)) := by rw [Joins.cell_of_block q0 0]; rfl
  have q0b : (w.alloc (.cells #[.int .i64 (c : Int), .int .i64 (n : Int)] 66)).cell? ⟨w.heap.size, 1, none⟩ = some (.int .i64 (n : Int)) := by rw [Joins.cell_of_block q0 1]; rfl
  gi_wp2_with (refine ⟨trivial, ?_⟩; gi_at_call 74; refine (callsIn_wide.2 (CL.out _)).mono ?_; rintro e w1 ⟨rfl, hb2⟩; refine Hid.out ?_)
  clear q0a q0b
  refine Lib.hid ?_
  gi_wp2_with (gi_at_make; refine wpListIn_make_full _ rfl _ _ 71 rfl w1.heap.size 76 i0 (.agg #[.int .i64 0, .int .i64 0]) 2 Tryd.underlying71 hi hz0 hz1 _ _ _ _ N rfl rfl rfl rfl (by rw [hz2]; omega) (by unfold maxLen; omega) (Nat.le_refl _) ?_; intro w2 hown hg; refine Hid.out ?_)
  rw [show (Value.agg #[Value.int .i64 0, Value.int .i64 0]).cells = #[Value.int .i64 0, Value.int .i64 0] from rfl, flat2_zero N, ← H02.out] at hown
  have hb3 : Below w1.heap.size w1 w2 := (Below.refl _ _).grown hg (Nat.le_refl _) (fun k h => by cases h)
  have r0 := (q0.below hb2).below hb3
  have hbw1 : Below w.heap.size w w1 := hb1.trans (hb2.mono (by first | (simp; done) | (simp; omega)))
  have hbw2 : Below w.heap.size w w2 := hbw1.trans (hb3.mono hbw1.size)
  have hltr : w1.heap.size < w2.heap.size := (hown.lt w1.heap.size rfl).2
  obtain ⟨rb, hrb⟩ : ∃ g, w1.heap.size = g := ⟨_, rfl⟩
  rw [hrb] at hown hltr ⊢
  have hbA := Joins.below_alloc1 w2 (.cells #[.slice (some ⟨rb, 0, none⟩) N N] 71)
  have c5 : Blk (w2.alloc (.cells #[.slice (some ⟨rb, 0, none⟩) N N] 71)) w2.heap.size #[.slice (some ⟨rb, 0, none⟩) N N] 71 := heap_alloc_last w2 _
  have hbw3 : Below w.heap.size w (w2.alloc (.cells #[.slice (some ⟨rb, 0, none⟩) N N] 71)) := hbw2.alloc hbw2.size _
  have HBW3 := Lib.hid hbw3
  have r0a := r0.below hbA
  have q0c : (w2.alloc (.cells #[.slice (some ⟨rb, 0, none⟩) N N] 71)).cell? ⟨w.heap.size, 0, none⟩ = some (.int .i64 (c : Int)) := by rw [Joins.cell_of_block r0a 0]; rfl
  have q0d : (w2.alloc (.cells #[.slice (some ⟨rb, 0, none⟩) N N] 71)).cell? ⟨w.heap.size, 1, none⟩ = some (.int .i64 (n : Int)) := by rw [Joins.cell_of_block r0a 1]; rfl
  have hwlt : w.heap.size < w1.heap.size := by have := hb2.size; simp at this; omega
  clear q0 hg
  refine Lib.hid ?_
  gi_wp2_with (refine ⟨trivial, ?_⟩; gi_at_call 67; refine (callsIn_wide.2 (CQ.out _)).mono ?_; rintro e w3 ⟨rfl, hb4⟩; refine Hid.out ?_)
  refine Lib.hid ?_
  gi_wp2_with (refine ⟨trivial, ?_⟩; gi_at_call 75; refine (callsIn_wide.2 (spots_any M 0 _ hsz)).mono ?_; rintro e w4 ⟨rfl, rfl⟩; refine Hid.out ?_)
  refine Lib.hid ?_
  gi_wp2
  obtain ⟨W0, hW0⟩ : ∃ W0, (w3.alloc (.cells M 59)).alloc (.cells #[.int .i64 0] 2) = W0 := ⟨_, rfl⟩
  have hs0 : W0.heap.size = w3.heap.size + 1 + 1 := by rw [← hW0]; simp
  have hs3 : w2.heap.size + 1 ≤ w3.heap.size := by have := hb4.size; simpa using this
  have c6 : Blk W0 w3.heap.size M 59 := by
    rw [← hW0]
    exact Blk.alloc (heap_alloc_last w3 _) _
  have c7 : Blk W0 (w3.heap.size + 1) #[.int .i64 0] 2 := by rw [← hW0]; exact heap_alloc2_new _ _ _
  have c0 : Blk W0 w.heap.size #[.int .i64 (c : Int), .int .i64 (n : Int)] 66 := by rw [← hW0]; exact ((r0a.below hb4).alloc _).alloc _
  have c5' : Blk W0 w2.heap.size #[.slice (some ⟨rb, 0, none⟩) N N] 71 := by rw [← hW0]; exact ((c5.below hb4).alloc _).alloc _
  have hb20 : Below w2.heap.size w2 W0 := by
    rw [← hW0]
    exact (hbA.trans (hb4.mono hbA.size)).trans ((Joins.below_alloc2 w3 _ _).mono (by omega))
  have HB0 : Below w.heap.size w W0 := hbw2.trans (hb20.mono hbw2.size)
  have ho0 : W0.ownsRow rb 76 2 (.slice (some ⟨rb, 0, none⟩) N N) N (flat2 (f [])) := own_below hown hb20
  rw [hW0]
  have hrb2 : w.heap.size < rb := by omega
  clear r0 r0a hbA hb4 hbw1 hbw2 hbw3 c5 HBW3 q0c q0d hown hb2 hb1 hb3 hW0 hb20 hwlt
  obtain ⟨m6, hm6⟩ : ∃ m, w3.heap.size = m := ⟨_, rfl⟩
  obtain ⟨m5, hm5⟩ : ∃ m, w2.heap.size = m := ⟨_, rfl⟩
  rw [hm6] at hs0 hs3 c6 c7 ⊢
  rw [hm5] at hs3 c5' hltr ⊢
  clear hm6 hm5 hrb
  refine wpIn_rangeFunc_ownH rfl (by omega) (gf := 83) (lb := #[.pointer (some ⟨m6 + 1, 0, none⟩), .pointer (some ⟨m6, 0, none⟩)]) rfl trivial (enters_of Tryd.func83 (by kernel_rfl) rfl)
    (spots_stops (gGrid (2 ^ n) (2 ^ n) h1 h1) M (2 ^ n) (2 ^ n) m6 (m6 + 1) h16 h16 (by show 0 ≤ 2; omega) (by show 2 ^ n = 2 ^ n + 2 * 0; omega) (by show 2 ^ n = 2 ^ n + 2 * 0; omega) (fun W h => hM2 W _ h) Fence.wide (6 - 1) trivial rfl (by omega) W0 c6 c7) two2_t (two2_b (by omega) (by omega)) (Below.refl _ _) (fun _ => rfl)
    (fun pre W => ((((Blk W m6 M 59 ∧ Blk W (m6 + 1) #[.int .i64 0] 2) ∧ Blk W w.heap.size #[.int .i64 (c : Int), .int .i64 (n : Int)] 66) ∧ Blk W m5 #[.slice (some ⟨rb, 0, none⟩) N N] 71) ∧ W.ownsRow rb 76 2 (.slice (some ⟨rb, 0, none⟩) N N) N (flat2 (f pre))) ∧ Below w.heap.size w W)
    (fun _ _ _ => False)
    (OwnFrom.and (OwnFrom.and (OwnFrom.and (OwnFrom.and (OwnFrom.and (Own.from (Blk.own _ _ _) _) (Own.from (Blk.own _ _ _) _)) (Own.from (Blk.own _ _ _) _)) (Own.from (Blk.own _ _ _) _)) (ownS_from rb W0.heap.size rb N (fun pre => flat2 (f pre)) (by omega))) (ownFrom_below (Nat.le_refl _) (by omega)))
    (fun _ _ _ _ _ hs _ _ => hs)
    ⟨⟨⟨⟨⟨c6, c7⟩, c0⟩, c5'⟩, ho0⟩, HB0⟩
    (fun x a' W => ∃ Bx, m6 + 1 < Bx ∧ Blk W Bx #[.int .i64 x.1.1, .int .i64 x.1.2] 76 ∧ a' = { tmps := #[.agg #[.int .i64 (c : Int), .int .i64 (n : Int)], .pointer (some ⟨w.heap.size, 0, none⟩), .slice none 0 0, .pointer (some ⟨m5, 0, none⟩), .pointer (some ⟨Bx, 0, none⟩), .agg #[.int .i64 (c : Int), .int .i64 (n : Int)], .int .i64 (N : Int), .slice (some ⟨rb, 0, none⟩) N N, .agg #[.int .i64 (c : Int), .int .i64 (n : Int)], .agg M, .func (.func 83) #[] #[.pointer (some ⟨m6 + 1, 0, none⟩), .pointer (some ⟨m6, 0, none⟩)], .agg #[.int .i64 x.1.1, .int .i64 x.1.2], undef, undef, undef, undef, undef, undef, undef], defers := [] })
    (fun x a' s X Y row hs hg hrow => by
      obtain ⟨Bx, hBx, h2, he⟩ := hs
      exact ⟨Bx, hBx, Blk.own (β := Unit) _ _ _ () X Y row h2 hg (fun r e => (hrow r e).2), he⟩)
    ?assign ?body ?done ?stop
  case assign =>
    rintro l pre x W K ⟨⟨⟨⟨⟨b6, b7⟩, b0⟩, b5⟩, bO⟩, hB⟩ hK
    have hs := hB.size
    have hlt := b7.lt
    simp only [encP]
    gi_wp2
    exact hK _ _ ((KeepsOthers.alloc _ _).from _) (two2_below b6.lt b7.lt (Joins.below_alloc1 _ _)) ⟨⟨⟨⟨⟨b6.alloc _, b7.alloc _⟩, b0.alloc _⟩, b5.alloc _⟩, World.ownsRow.alloc bO _⟩, hB.alloc hs _⟩ ⟨W.heap.size, hlt, heap_alloc_last W _, rfl⟩
  case body =>
    rintro l pre xe a' WB hl' _ ⟨⟨⟨⟨⟨b6, b7⟩, b0⟩, b5⟩, bO⟩, hB⟩ ⟨Bx, hBx, h2, rfl⟩ hlt
    have hin := xe.2
    unfold InG at hin
    obtain ⟨x, hxn⟩ : ∃ k : Nat, xe.1.1 = k := ⟨xe.1.1.toNat, by omega⟩
    obtain ⟨y, hyn⟩ : ∃ k : Nat, xe.1.2 = k := ⟨xe.1.2.toNat, by omega⟩
    have hx : x < 2 ^ n := by omega
    have hy : y < 2 ^ n := by omega
    obtain ⟨j, hj, hji, CA0⟩ := CI.out x y hx hy
    have hsn := HSn2.out pre xe
    rw [show xe.1.1.toNat = x from by omega, show xe.1.2.toNat = y from by omega, hji, show xe.1 = ((x : Int), (y : Int)) from Prod.ext hxn hyn] at hsn
    have hl := HLn2.out pre
    obtain ⟨L, hL⟩ : ∃ L, f pre = L := ⟨_, rfl⟩
    rw [hL] at hsn hl bO
    have hfl := flat2_set L j (x : Int) (y : Int) (by omega)
    rw [hxn, hyn] at h2 ⊢
    have CA : Hid (∀ W, Below WB.heap.size WB W → Calls Tryd.prog 76 #[.agg #[.int .i64 (c : Int), .int .i64 (n : Int)], .agg #[.int .i64 (x : Int), .int .i64 (y : Int)]] W (fun e w' => e = .returned (.int .i64 (j : Int)) ∧ Below W.heap.size W w')) := fun W hb => CA0 W (hB.trans (hb.mono hB.size))
    have HX : Hid (∀ W, Below WB.heap.size WB W → W.cell? ⟨Bx, 0, none⟩ = some (.int .i64 (x : Int)) ∧ W.cell? ⟨Bx, 1, none⟩ = some (.int .i64 (y : Int))) := fun W hb => ⟨cell_kept hb (by rw [Joins.cell_of_block h2 0]; rfl), cell_kept hb (by rw [Joins.cell_of_block h2 1]; rfl)⟩
    have HF : Hid (∀ W, Below WB.heap.size WB W → W.cell? ⟨w.heap.size, 0, none⟩ = some (.int .i64 (c : Int)) ∧ W.cell? ⟨w.heap.size, 1, none⟩ = some (.int .i64 (n : Int))) := fun W hb => ⟨cell_kept hb (by rw [Joins.cell_of_block b0 0]; rfl), cell_kept hb (by rw [Joins.cell_of_block b0 1]; rfl)⟩
    have HR5 : Hid (∀ W, Below WB.heap.size WB W → W.cell? ⟨m5, 0, none⟩ = some (.slice (some ⟨rb, 0, none⟩) N N)) := fun W hb => cell_kept hb (cell_of_one b5)
    have HPu : Hid (∀ W, Below WB.heap.size WB W → W.frozen? ⟨rb, j * 2, none⟩ = false ∧ W.cell? ⟨rb, j * 2, none⟩ = some (.int .i64 (spotC L (j * 2))) ∧ (W.setCell ⟨rb, j * 2, none⟩ (.int .i64 (x : Int))).frozen? ⟨rb, j * 2 + 1, none⟩ = false ∧ (W.setCell ⟨rb, j * 2, none⟩ (.int .i64 (x : Int))).cell? ⟨rb, j * 2 + 1, none⟩ = some (.int .i64 (spotC L (j * 2 + 1)))) := fun W hb => by
      have ho := own_below bO hb
      have hq1 := (ho.stored (j * 2) (.int .i64 (x : Int))).1
      have he1 : ((flat2 L).set (j * 2) (.int .i64 (x : Int)))[j * 2 + 1]? = some (.int .i64 (spotC L (j * 2 + 1))) := by rw [List.getElem?_set_ne (by omega)]; exact flat2_at L (j * 2 + 1) (by omega)
      exact ⟨ho.frozenAt (j * 2), (ho.cellAt (j * 2) (by omega)).trans (flat2_at L (j * 2) (by omega)), hq1.frozenAt (j * 2 + 1), (hq1.cellAt (j * 2 + 1) (by omega)).trans he1⟩
    have HO2 : Hid (∀ W, Below WB.heap.size WB W → ((W.setCell ⟨rb, j * 2, none⟩ (.int .i64 (x : Int))).setCell ⟨rb, j * 2 + 1, none⟩ (.int .i64 (y : Int))).ownsRow rb 76 2 (.slice (some ⟨rb, 0, none⟩) N N) N (flat2 (f (pre ++ [xe])))) := fun W hb => by
      have ho := own_below bO hb
      have hq1 := (ho.stored (j * 2) (.int .i64 (x : Int))).1
      have hq2 := (hq1.stored (j * 2 + 1) (.int .i64 (y : Int))).1
      rw [hfl, ← hsn] at hq2
      exact hq2
    have G6 := Lib.hid b6
    have G7 := Lib.hid b7
    have G0 := Lib.hid b0
    have G5 := Lib.hid b5
    have GB := Lib.hid hB
    have hl0 := hB.size
    have kj : (j : Int) < (N : Int) := by omega
    have kj0 : (0 : Int) ≤ (j : Int) := by omega
    have hrbl := (bO.lt rb rfl).2
    clear hin b6 b7 b0 b5 bO hB h2 hxn hyn c0 c5' c6 c7 HB0 ho0 hfl hsn hl hL hji CA0
    apply wpIn_block
    refine wpIn_region_inv_at (by kernel_rfl) (by intro o ho; simp at ho; rcases ho with rfl | rfl | rfl | rfl | rfl | rfl | rfl <;> rfl) (fun A0 L A W => ∃ (b0 b1 b2 b3 b4 b5 b6 : Bool) (v12 v13 v14 v15 v16 v17 : Value), L = #[b0, b1, b2, b3, b4, b5, b6] ∧ A = ((((((A0.put (some 12) v12).put (some 13) v13).put (some 14) v14).put (some 15) v15).put (some 16) v16).put (some 17) v17) ∧ (∃ Wp, Below WB.heap.size WB Wp ∧ W = (if b6 = true then (Wp.setCell ⟨rb, j * 2, none⟩ (.int .i64 (x : Int))).setCell ⟨rb, j * 2 + 1, none⟩ (.int .i64 (y : Int)) else Wp)) ∧ Hid (b0 = true → v12 = .slice (some ⟨rb, 0, none⟩) N N) ∧ Hid (b1 = true → v13 = .agg #[.int .i64 (c : Int), .int .i64 (n : Int)]) ∧ Hid (b2 = true → v14 = .agg #[.int .i64 (x : Int), .int .i64 (y : Int)]) ∧ Hid (b3 = true → v15 = .int .i64 (j : Int)) ∧ Hid (b4 = true → v16 = .agg #[.int .i64 (x : Int), .int .i64 (y : Int)]) ∧ Hid (b5 = true → v17 = .pointer (some ⟨rb, j * 2, none⟩)) ∧ Hid ((b0 = false → b6 = false) ∧ (b1 = false → b6 = false) ∧ (b2 = false → b6 = false) ∧ (b3 = false → b6 = false) ∧ (b4 = false → b6 = false) ∧ (b5 = false → b6 = false))) ?_ ?_ ?_
    · intro A0
      refine ⟨false, false, false, false, false, false, false, A0.tmps.getD 12 undef, A0.tmps.getD 13 undef, A0.tmps.getD 14 undef, A0.tmps.getD 15 undef, A0.tmps.getD 16 undef, A0.tmps.getD 17 undef, rfl, (by simp only [put_self]), ⟨_, (Below.refl _ _).drew, rfl⟩, Lib.hid (fun hf => by cases hf), Lib.hid (fun hf => by cases hf), Lib.hid (fun hf => by cases hf), Lib.hid (fun hf => by cases hf), Lib.hid (fun hf => by cases hf), Lib.hid (fun hf => by cases hf), Lib.hid ⟨fun _ => rfl, fun _ => rfl, fun _ => rfl, fun _ => rfl, fun _ => rfl, fun _ => rfl⟩⟩
    · intro L A W hI i hi o ho K' hK
      have hlt := (ready_left hi).1
      have hun := (ready_left hi).2
      have haf := ready_after hi ho
      clear hi
      obtain ⟨b0, b1, b2, b3, b4, b5, b6, v12, v13, v14, v15, v16, v17, rfl, rfl, hB, h0, h1, h2, h3, h4, h5, p⟩ := hI
      have hc : i = 0 ∨ i = 1 ∨ i = 2 ∨ i = 3 ∨ i = 4 ∨ i = 5 ∨ i = 6 := by
        simp at hlt
        omega
      rcases hc with rfl | rfl | rfl | rfl | rfl | rfl | rfl
      all_goals (obtain rfl := Option.some.inj ho; clear ho; simp [Region.binds] at haf hun; (try simp only [List.getElem_toArray, List.getElem_cons_zero, List.getElem_cons_succ]); simp only [Act.put, List.setIfInBounds_toArray, List.set_cons_zero, List.set_cons_succ])
      · -- operation 0
        replace hK := Lib.hid hK
        have hlast : b6 = false := p.out.1 hun
        subst hlast
        obtain ⟨Wp, hB, hWp⟩ := hB
        have hWq : W = Wp := by simpa using hWp
        clear hWp
        subst hWq
        have q0 := (HX.out W hB).1
        have q1 := (HX.out W hB).2
        have q2 := (HF.out W hB).1
        have q3 := (HF.out W hB).2
        have q5 := HR5.out W hB
        obtain ⟨q6, q7, q8, q9⟩ := HPu.out W hB
        subst hun
        go_simp
        exact hK.out _ _ ⟨true, b1, b2, b3, b4, b5, false, .slice (some ⟨rb, 0, none⟩) N N, v13, v14, v15, v16, v17, rfl, (by simp only [Act.put, List.setIfInBounds_toArray, List.set_cons_zero, List.set_cons_succ]), ⟨_, hB, rfl⟩, Lib.hid (fun _ => rfl), h1, h2, h3, h4, h5, Lib.hid ⟨(fun hf => by cases hf), (fun _ => rfl), (fun _ => rfl), (fun _ => rfl), (fun _ => rfl), (fun _ => rfl)⟩⟩
      · -- operation 1
        replace hK := Lib.hid hK
        have hlast : b6 = false := p.out.2.1 hun
        subst hlast
        obtain ⟨Wp, hB, hWp⟩ := hB
        have hWq : W = Wp := by simpa using hWp
        clear hWp
        subst hWq
        have q0 := (HX.out W hB).1
        have q1 := (HX.out W hB).2
        have q2 := (HF.out W hB).1
        have q3 := (HF.out W hB).2
        have q5 := HR5.out W hB
        obtain ⟨q6, q7, q8, q9⟩ := HPu.out W hB
        subst hun
        go_simp
        exact hK.out _ _ ⟨b0, true, b2, b3, b4, b5, false, v12, .agg #[.int .i64 (c : Int), .int .i64 (n : Int)], v14, v15, v16, v17, rfl, (by simp only [Act.put, List.setIfInBounds_toArray, List.set_cons_zero, List.set_cons_succ]), ⟨_, hB, rfl⟩, h0, Lib.hid (fun _ => rfl), h2, h3, h4, h5, Lib.hid ⟨(fun _ => rfl), (fun hf => by cases hf), (fun _ => rfl), (fun _ => rfl), (fun _ => rfl), (fun _ => rfl)⟩⟩
      · -- operation 2
        replace hK := Lib.hid hK
        have hlast : b6 = false := p.out.2.2.1 hun
        subst hlast
        obtain ⟨Wp, hB, hWp⟩ := hB
        have hWq : W = Wp := by simpa using hWp
        clear hWp
        subst hWq
        have q0 := (HX.out W hB).1
        have q1 := (HX.out W hB).2
        have q2 := (HF.out W hB).1
        have q3 := (HF.out W hB).2
        have q5 := HR5.out W hB
        obtain ⟨q6, q7, q8, q9⟩ := HPu.out W hB
        subst hun
        go_simp
        exact hK.out _ _ ⟨b0, b1, true, b3, b4, b5, false, v12, v13, .agg #[.int .i64 (x : Int), .int .i64 (y : Int)], v15, v16, v17, rfl, (by simp only [Act.put, List.setIfInBounds_toArray, List.set_cons_zero, List.set_cons_succ]), ⟨_, hB, rfl⟩, h0, h1, Lib.hid (fun _ => rfl), h3, h4, h5, Lib.hid ⟨(fun _ => rfl), (fun _ => rfl), (fun hf => by cases hf), (fun _ => rfl), (fun _ => rfl), (fun _ => rfl)⟩⟩
      · -- operation 3
        replace hK := Lib.hid hK
        have hlast : b6 = false := p.out.2.2.2.1 hun
        subst hlast
        obtain ⟨Wp, hB, hWp⟩ := hB
        have hWq : W = Wp := by simpa using hWp
        clear hWp
        subst hWq
        have q0 := (HX.out W hB).1
        have q1 := (HX.out W hB).2
        have q2 := (HF.out W hB).1
        have q3 := (HF.out W hB).2
        have q5 := HR5.out W hB
        obtain ⟨q6, q7, q8, q9⟩ := HPu.out W hB
        obtain rfl := h1.out (by simp only [haf])
        obtain rfl := h2.out (by simp only [haf])
        subst hun
        go_simp
        refine ⟨trivial, ?_⟩
        refine (CallsIn.inRound l (callsIn_wide.2 (CA.out W hB))).mono ?_
        rintro e W' ⟨rfl, hb⟩
        have hkept := fun kb (hk : kb < W.heap.size) => hb.block kb hk
        exact hK.out _ _ ⟨b0, b1, b2, true, b4, b5, false, v12, .agg #[.int .i64 (c : Int), .int .i64 (n : Int)], .agg #[.int .i64 (x : Int), .int .i64 (y : Int)], .int .i64 (j : Int), v16, v17, rfl, (by simp only [Act.put, List.setIfInBounds_toArray, List.set_cons_zero, List.set_cons_succ]), ⟨_, hB.trans (hb.mono hB.size), rfl⟩, h0, Lib.hid (fun _ => rfl), Lib.hid (fun _ => rfl), Lib.hid (fun _ => rfl), h4, h5, Lib.hid ⟨(fun _ => rfl), (fun _ => rfl), (fun _ => rfl), (fun hf => by cases hf), (fun _ => rfl), (fun _ => rfl)⟩⟩
      · -- operation 4
        replace hK := Lib.hid hK
        have hlast : b6 = false := p.out.2.2.2.2.1 hun
        subst hlast
        obtain ⟨Wp, hB, hWp⟩ := hB
        have hWq : W = Wp := by simpa using hWp
        clear hWp
        subst hWq
        have q0 := (HX.out W hB).1
        have q1 := (HX.out W hB).2
        have q2 := (HF.out W hB).1
        have q3 := (HF.out W hB).2
        have q5 := HR5.out W hB
        obtain ⟨q6, q7, q8, q9⟩ := HPu.out W hB
        subst hun
        go_simp
        exact hK.out _ _ ⟨b0, b1, b2, b3, true, b5, false, v12, v13, v14, v15, .agg #[.int .i64 (x : Int), .int .i64 (y : Int)], v17, rfl, (by simp only [Act.put, List.setIfInBounds_toArray, List.set_cons_zero, List.set_cons_succ]), ⟨_, hB, rfl⟩, h0, h1, h2, h3, Lib.hid (fun _ => rfl), h5, Lib.hid ⟨(fun _ => rfl), (fun _ => rfl), (fun _ => rfl), (fun _ => rfl), (fun hf => by cases hf), (fun _ => rfl)⟩⟩
      · -- operation 5
        replace hK := Lib.hid hK
        have hlast : b6 = false := p.out.2.2.2.2.2 hun
        subst hlast
        obtain ⟨Wp, hB, hWp⟩ := hB
        have hWq : W = Wp := by simpa using hWp
        clear hWp
        subst hWq
        have q0 := (HX.out W hB).1
        have q1 := (HX.out W hB).2
        have q2 := (HF.out W hB).1
        have q3 := (HF.out W hB).2
        have q5 := HR5.out W hB
        obtain ⟨q6, q7, q8, q9⟩ := HPu.out W hB
        obtain rfl := h0.out (by simp only [haf])
        obtain rfl := h3.out (by simp only [haf])
        subst hun
        go_simp
        exact hK.out _ _ ⟨b0, b1, b2, b3, b4, true, false, .slice (some ⟨rb, 0, none⟩) N N, v13, v14, .int .i64 (j : Int), v16, .pointer (some ⟨rb, j * 2, none⟩), rfl, (by simp only [Act.put, List.setIfInBounds_toArray, List.set_cons_zero, List.set_cons_succ]), ⟨_, hB, rfl⟩, Lib.hid (fun _ => rfl), h1, h2, Lib.hid (fun _ => rfl), h4, Lib.hid (fun _ => rfl), Lib.hid ⟨(fun _ => rfl), (fun _ => rfl), (fun _ => rfl), (fun _ => rfl), (fun _ => rfl), (fun hf => by cases hf)⟩⟩
      · -- operation 6
        replace hK := Lib.hid hK
        subst hun
        obtain ⟨Wp, hB, hWp⟩ := hB
        have hWq : W = Wp := by simpa using hWp
        clear hWp
        subst hWq
        have q0 := (HX.out W hB).1
        have q1 := (HX.out W hB).2
        have q2 := (HF.out W hB).1
        have q3 := (HF.out W hB).2
        have q5 := HR5.out W hB
        obtain ⟨q6, q7, q8, q9⟩ := HPu.out W hB
        obtain rfl := h4.out (by simp only [haf])
        obtain rfl := h5.out (by simp only [haf])
        go_simp
        exact hK.out _ _ ⟨b0, b1, b2, b3, b4, b5, true, v12, v13, v14, v15, .agg #[.int .i64 (x : Int), .int .i64 (y : Int)], .pointer (some ⟨rb, j * 2, none⟩), rfl, (by simp only [Act.put, List.setIfInBounds_toArray, List.set_cons_zero, List.set_cons_succ]), ⟨_, hB, rfl⟩, h0, h1, h2, h3, Lib.hid (fun _ => rfl), Lib.hid (fun _ => rfl), Lib.hid ⟨(fun hf => absurd (show false = true from hf.symm.trans (by simp only [haf])) (by decide)), (fun hf => absurd (show false = true from hf.symm.trans (by simp only [haf])) (by decide)), (fun hf => absurd (show false = true from hf.symm.trans (by simp only [haf])) (by decide)), (fun hf => absurd (show false = true from hf.symm.trans (by simp only [haf])) (by decide)), (fun hf => absurd (show false = true from hf.symm.trans (by simp only [haf])) (by decide)), (fun hf => absurd (show false = true from hf.symm.trans (by simp only [haf])) (by decide))⟩⟩
    intro L A W hI hr
    obtain ⟨b0, b1, b2, b3, b4, b5, b6, v12, v13, v14, v15, v16, v17, rfl, rfl, hB, h0, h1, h2, h3, h4, h5, p⟩ := hI
    have d0 := ready_done hr 0 _ rfl (by simp [Region.binds])
    simp at d0
    subst d0
    have d1 := ready_done hr 1 _ rfl (by simp [Region.binds])
    simp at d1
    subst d1
    have d2 := ready_done hr 2 _ rfl (by simp [Region.binds])
    simp at d2
    subst d2
    have d3 := ready_done hr 3 _ rfl (by simp [Region.binds])
    simp at d3
    subst d3
    have d4 := ready_done hr 4 _ rfl (by simp [Region.binds])
    simp at d4
    subst d4
    have d5 := ready_done hr 5 _ rfl (by simp [Region.binds])
    simp at d5
    subst d5
    have d6 := ready_done hr 6 _ rfl (by simp [Region.binds])
    simp at d6
    subst d6
    obtain rfl := h0.out rfl
    obtain rfl := h1.out rfl
    obtain rfl := h2.out rfl
    obtain rfl := h3.out rfl
    obtain rfl := h4.out rfl
    obtain rfl := h5.out rfl
    obtain ⟨Wp, hB, hWp⟩ := hB
    have hWq : W = (Wp.setCell ⟨rb, j * 2, none⟩ (.int .i64 (x : Int))).setCell ⟨rb, j * 2 + 1, none⟩ (.int .i64 (y : Int)) := by simpa using hWp
    clear hWp
    subst hWq
    simp only [Act.put, List.setIfInBounds_toArray, List.set_cons_zero, List.set_cons_succ]
    clear hr h0 h1 h2 h3 h4 h5 p
    have KO : ∀ k, k ≠ rb → k < WB.heap.size → ((Wp.setCell ⟨rb, j * 2, none⟩ (.int .i64 (x : Int))).setCell ⟨rb, j * 2 + 1, none⟩ (.int .i64 (y : Int))).heap[k]? = WB.heap[k]? := fun k hk hlt => ((Below.heap_setCell _ ⟨rb, j * 2 + 1, none⟩ _ k hk).trans (Below.heap_setCell Wp ⟨rb, j * 2, none⟩ _ k hk)).trans (hB.block k hlt)
    have hO9 := HO2.out Wp hB
    gi_wp2
    refine ⟨⟨by simp; exact hB.size, fun k o hk hko _ => (KO k (by omega) (Array.getElem?_eq_some_iff.1 hko).1).trans hko⟩, ⟨KO _ (by omega) G6.out.lt, KO _ (by omega) G7.out.lt⟩, ⟨⟨⟨⟨⟨(KO _ (by omega) G6.out.lt).trans G6.out, (KO _ (by omega) G7.out.lt).trans G7.out⟩, (KO _ (by omega) G0.out.lt).trans G0.out⟩, (KO _ (by omega) G5.out.lt).trans G5.out⟩, hO9⟩, ((GB.out.trans (hB.mono hl0)).setCell (p := ⟨rb, j * 2, none⟩) (by show w.heap.size ≤ rb; omega) _).setCell (p := ⟨rb, j * 2 + 1, none⟩) (by show w.heap.size ≤ rb; omega) _⟩⟩
  case done =>
    rintro D ys W hD rfl ⟨⟨⟨⟨⟨b6, b7⟩, b0⟩, b5⟩, bO⟩, hB⟩ hK
    have hc5 := cell_of_one b5
    have hD2 : m5 < D := by omega
    gi_wp2
    refine ⟨by simp, .inl ⟨_, _, rfl, run_takeDeferred hK, ?_⟩⟩
    have hEq : f ((gGrid (2 ^ n) (2 ^ n) h1 h1).list (2 ^ n * 2 ^ n)) = F := by rw [HNh.out]; exact HEnd2.out
    have hEnd : OwnS (W.putObj D (.deferred none)) w.heap.size (.slice (some ⟨rb, 0, none⟩) N N) F := by
      have h9 : (W.putObj D (.deferred none)).ownsRow rb 76 2 (.slice (some ⟨rb, 0, none⟩) N N) N (flat2 (f ((gGrid (2 ^ n) (2 ^ n) h1 h1).list (2 ^ n * 2 ^ n)))) := own_keep bO fun k e => World.putObj_heap_other (by simp [Value.ownBlock] at e; omega)
      rw [hEq] at h9
      unfold OwnS
      rw [HLf.out]
      exact Joins.ownsRow_le h9 (by omega)
    refine ⟨_, results_tmp rfl _ _ _, rb, N, rfl, hEnd, ?_⟩
    exact hB.trans (belowK_b (w := w) (Nat.le_refl _) _ D _ _ (by omega) hK rfl rfl)
  case stop =>
    rintro D c pre W _ _ h _
    exact h.elim
end Go.Proofs.YthblhibkbcmbaaaDoor
