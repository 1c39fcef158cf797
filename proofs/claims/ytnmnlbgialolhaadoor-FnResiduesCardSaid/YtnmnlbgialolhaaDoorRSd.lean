/- Contracts of single functions, and plain lemmas, on which the exact laws of this seat rest; each holds under the conditions that it states. -/
import Derived.Test.YtnmnlbgialolhaaDoorRSc
namespace Go.Proofs.YtnmnlbgialolhaaDoor
set_option linter.unusedVariables false
set_option linter.unusedSimpArgs false
open Go.RowKit Go.Shelf
attribute [local go_sem] Oper.semAt_some


set_option maxRecDepth 100000 in
set_option maxHeartbeats 4000000 in
theorem fromRes_any (C : Array Value) (a b : Nat) (g : Nat → Nat) (w : World) (hC : C = mat a b g) (ha1 : 0 < a) (ha : a ≤ 16) (hb1 : 0 < b) (hb : b ≤ 16) (hg : ∀ j, g j < 4294967296) :
    Calls Tryd.prog 50 #[.agg C] w (fun e w' => e = .returned (.agg (mat a b (dnH (frFun a b g) ((gGrid a b ha1 hb1).list (b * a))))) ∧ Below w.heap.size w w') := by
  refine (callsIn_wide (n := 6)).1 ?_
  have CB : Hid (∀ (x y : Int) W, Calls Tryd.prog 90 #[.agg C, .int .i64 x, .int .i64 y] W (SaysB (blackB a b g x y) W)) := fun x y W => black_any C a b g x y W hC ha hb hg
  have CO : Hid (∀ (x y : Nat) W, x ≤ 16 → y ≤ 16 → Calls Tryd.prog 91 #[.agg C, .agg #[.int .i64 x, .int .i64 y]] W (SaysB (oddB a b g x y) W)) := fun x y W hx hy => isOdd_any C a b g x y W hC ha hb hg (by omega) (by omega)
  have hsC : C.size = 18 := by rw [hC]; rfl
  have HIC : Hid ((Tryd.prog.info? 63).map (·.size) = some C.size) := by show _ = _; rw [hsC]; exact infoM
  have HZC : Hid (zeros.size = C.size) := by show _ = _; rw [hsC]; rfl
  have hmC : ∀ (W : World) (q : Nat), W.heap[q]? = some (.cells C 63 (0, 0)) → W.cell? ⟨q, 0, none⟩ = some (.int .i64 (a : Int)) ∧ W.cell? ⟨q, 1, none⟩ = some (.int .i64 (b : Int)) := fun W q h => by
    rw [hC] at h
    exact ⟨by rw [Joins.cell_of_block h 0]; rfl, by rw [Joins.cell_of_block h 1]; rfl⟩
  have HMc := Lib.hid hmC
  have HBl : Hid (Tryd.prog.built 63 [(0, .int .i64 (a : Int)), (1, .int .i64 (b : Int))] = some (mat a b (fun _ => 0))) := built_m2 (a : Int) (b : Int)
  obtain ⟨M, hM⟩ : ∃ M, mat a b (fun _ => 0) = M := ⟨_, rfl⟩
  rw [hM] at HBl
  have hsz : M.size = 18 := by rw [← hM]; rfl
  have HI : Hid ((Tryd.prog.info? 63).map (·.size) = some M.size) := by show _ = _; rw [hsz]; exact infoM
  have HZ0 : Hid (zeros.size = M.size) := by show _ = _; rw [hsz]; rfl
  have HO : Hid (M.all (·.oneCell') = true) := by show _ = _; rw [← hM]; exact mcells_one _ _ _
  have HM0 : Hid (M = mat a b (dnH (frFun a b g) ([] : List { q : Int × Int // InG a b q }))) := by show _ = _; rw [← hM]; rfl
  have hzz : zeros = #[.int .i64 0, .int .i64 0, .int .u32 0, .int .u32 0, .int .u32 0, .int .u32 0, .int .u32 0, .int .u32 0, .int .u32 0, .int .u32 0, .int .u32 0, .int .u32 0, .int .u32 0, .int .u32 0, .int .u32 0, .int .u32 0, .int .u32 0, .int .u32 0] := rfl
  obtain ⟨W1, hW1⟩ : ∃ W1, (w.alloc (.cells C 63)).alloc (.cells #[.int .i64 0, .int .i64 0, .int .u32 0, .int .u32 0, .int .u32 0, .int .u32 0, .int .u32 0, .int .u32 0, .int .u32 0, .int .u32 0, .int .u32 0, .int .u32 0, .int .u32 0, .int .u32 0, .int .u32 0, .int .u32 0, .int .u32 0, .int .u32 0] 63) = W1 := ⟨_, rfl⟩
  have hs1 : W1.heap.size = w.heap.size + 1 + 1 := by rw [← hW1]; simp
  have d0 : Blk W1 w.heap.size C 63 := by
    show _ = _
    rw [← hW1, Below.heap_alloc _ _ _ (by simp)]; exact heap_alloc_last w _
  have d1 : Blk W1 (w.heap.size + 1) zeros 63 := by
    show _ = _
    rw [← hW1, hzz]; exact heap_alloc2_new _ _ _
  have hb01 : Below w.heap.size w W1 := by rw [← hW1]; exact Joins.below_alloc2 _ _ _
  have HW1 := Lib.hid hW1
  have HS1 := Lib.hid hs1
  clear hs1
  have k0 := (HMc.out W1 w.heap.size d0).1
  have k1 := (HMc.out W1 w.heap.size d0).2
  rw [← hW1] at k0 k1
  clear hM hmC hzz hW1 hC
  refine callsIn_of_wp_marks Tryd.func50 rfl trivial ?_ rfl
  simp only [Tryd.ntmps50, List.size_toArray, List.length_cons, List.length_nil, Nat.reduceAdd, Nat.reduceSub, Array.replicate_succ, Array.replicate_zero, List.push_toArray, List.append_toArray, List.nil_append, List.cons_append]
  gi_wp2_with (refine wpListIn_build_as rfl 63 _ rfl [(0, .int .i64 (a : Int)), (1, .int .i64 (b : Int))] M rfl HBl.out ?_; refine Hid.out ?_)
  clear k0 k1
  rw [HW1.out]
  have e0 : Blk (W1.alloc (.cells M 63)) w.heap.size C 63 := d0.alloc _
  have e1 : Blk (W1.alloc (.cells M 63)) (w.heap.size + 1) zeros 63 := d1.alloc _
  have e2 : Blk (W1.alloc (.cells M 63)) W1.heap.size M 63 := heap_alloc_last W1 _
  have E0 := Lib.hid e0
  clear HW1
  refine Lib.hid ?_
  gi_wp2_with (refine wpListIn_store_new W1 rfl 63 _ _ rfl M rfl rfl 63 zeros HI.out HZ0.out HO.out ?_; refine Hid.out ?_)
  refine Lib.hid ?_
  gi_wp2_with (first | (refine wpListIn_load_row rfl 63 _ rfl w.heap.size rfl 63 C (0, 0) _ E0.out Tryd.underlying63 rfl HIC.out ?_) | (refine ⟨trivial, ?_⟩; gi_at_call 89; refine (callsIn_wide.2 (spots_any C 0 _ hsC)).mono ?_; rintro e w3 ⟨rfl, rfl⟩; refine Hid.out ?_))
  refine Lib.hid ?_
  gi_wp2
  obtain ⟨m5, hm5⟩ : ∃ m, W1.heap.size = m := ⟨_, rfl⟩
  obtain ⟨W0, hW0⟩ : ∃ W0, ((W1.alloc (.cells M 63)).alloc (.cells C 63)).alloc (.cells #[.int .i64 0] 2) = W0 := ⟨_, rfl⟩
  have hs0 : W0.heap.size = W1.heap.size + 1 + 1 + 1 := by rw [← hW0]; simp
  have c0 : Blk W0 w.heap.size C 63 := by rw [← hW0]; exact (e0.alloc _).alloc _
  have c1 : Blk W0 (w.heap.size + 1) zeros 63 := by rw [← hW0]; exact (e1.alloc _).alloc _
  have c5 : Blk W0 W1.heap.size M 63 := by rw [← hW0]; exact (e2.alloc _).alloc _
  have c6 : Blk W0 (W1.heap.size + 1) C 63 := by
    rw [← hW0]
    exact Blk.alloc (heap_alloc2_new _ _ _) _
  have c7 : Blk W0 (W1.heap.size + 1 + 1) #[.int .i64 0] 2 := by
    rw [← hW0]
    have := heap_alloc_last ((W1.alloc (.cells M 63)).alloc (.cells C 63)) (.cells #[.int .i64 0] 2)
    simp only [World.size_alloc] at this
    exact this
  have HB0 : Below w.heap.size w W0 := by rw [← hW0]; exact ((hb01.alloc hb01.size _).alloc (by have := hb01.size; simp; omega) _).alloc (by have := hb01.size; simp; omega) _
  rw [hW0]
  have hs1 := HS1.out
  rw [hm5] at hs0 hs1 c5 c6 c7 ⊢
  have hm0 : w.heap.size + 1 < m5 := by omega
  clear hs1 HS1
  clear hW0 hm5 e0 e1 e2 E0 d0 d1 hb01
  refine wpIn_rangeFunc_ownH rfl (by omega) (gf := 114) (lb := #[.pointer (some ⟨m5 + 1 + 1, 0, none⟩), .pointer (some ⟨m5 + 1, 0, none⟩)]) rfl trivial (enters_of Tryd.func114 (by kernel_rfl) rfl)
    (spots_stops (gGrid a b ha1 hb1) C a b (m5 + 1) (m5 + 1 + 1) ha hb (by show 0 ≤ 2; omega) (by show a = a + 2 * 0; omega) (by show b = b + 2 * 0; omega) (fun W h => HMc.out W _ h) Fence.wide (6 - 1) trivial rfl (by omega) W0 c6 c7) two2_t (two2_b (by omega) (by omega)) (Below.refl _ _) (fun _ => rfl)
    (fun pre W => ((((Blk W (m5 + 1) C 63 ∧ Blk W (m5 + 1 + 1) #[.int .i64 0] 2) ∧ Blk W w.heap.size C 63) ∧ Blk W (w.heap.size + 1) zeros 63) ∧ Blk W m5 (mat a b (dnH (frFun a b g) pre)) 63) ∧ Below w.heap.size w W)
    (fun _ _ _ => False)
    (OwnFrom.and (OwnFrom.and (OwnFrom.and (OwnFrom.and (OwnFrom.and (Own.from (Blk.own _ _ _) _) (Own.from (Blk.own _ _ _) _)) (Own.from (Blk.own _ _ _) _)) (Own.from (Blk.own _ _ _) _)) (Own.from (BlkG.own m5 (fun pre => mat a b (dnH (frFun a b g) pre)) 63) _)) (ownFrom_below (Nat.le_refl _) (by omega)))
    (fun _ _ _ _ _ hs _ _ => hs)
    ⟨⟨⟨⟨⟨c6, c7⟩, c0⟩, c1⟩, by rw [← HM0.out]; exact c5⟩, HB0⟩
    (fun x a' W => ∃ Bx, m5 + 1 + 1 < Bx ∧ Blk W Bx #[.int .i64 x.1.1, .int .i64 x.1.2] 93 ∧ a' = { tmps := #[.agg C, .pointer (some ⟨w.heap.size, 0, none⟩), .pointer (some ⟨w.heap.size + 1, 0, none⟩), .pointer (some ⟨m5, 0, none⟩), .pointer (some ⟨Bx, 0, none⟩), .pointer (some ⟨w.heap.size, 0, none⟩), .int .i64 a, .pointer (some ⟨w.heap.size, 1, none⟩), .int .i64 b, .agg M, .agg C, .func (.func 114) #[] #[.pointer (some ⟨m5 + 1 + 1, 0, none⟩), .pointer (some ⟨m5 + 1, 0, none⟩)], .agg #[.int .i64 x.1.1, .int .i64 x.1.2], undef, undef, undef, undef, undef, undef, undef, undef, undef, undef, undef, undef, undef, undef, undef, undef], defers := [] })
    (fun x a' s X Y row hs hg hrow => by
      obtain ⟨Bx, hBx, h2, he⟩ := hs
      exact ⟨Bx, hBx, Blk.own (β := Unit) _ _ _ () X Y row h2 hg (fun r e => (hrow r e).2), he⟩)
    ?assign ?body ?done ?stop
  case assign =>
    rintro l pre x W K ⟨⟨⟨⟨⟨b6, b7⟩, b0⟩, b1⟩, b5⟩, hB⟩ hK
    have hs := hB.size
    have hlt := b7.lt
    simp only [encP]
    gi_wp2
    exact hK _ _ ((KeepsOthers.alloc _ _).from _) (two2_below b6.lt b7.lt (Joins.below_alloc1 _ _)) ⟨⟨⟨⟨⟨b6.alloc _, b7.alloc _⟩, b0.alloc _⟩, b1.alloc _⟩, b5.alloc _⟩, hB.alloc hs _⟩ ⟨W.heap.size, hlt, heap_alloc_last W _, rfl⟩
  case body =>
    rintro l pre xe a' WB hl' _ ⟨⟨⟨⟨⟨b6, b7⟩, b0⟩, b1⟩, b5⟩, hB⟩ ⟨Bx, hBx, h2, rfl⟩ hlt
    have hin := xe.2
    unfold InG at hin
    obtain ⟨x, hxn⟩ : ∃ k : Nat, xe.1.1 = k := ⟨xe.1.1.toNat, by omega⟩
    obtain ⟨y, hyn⟩ : ∃ k : Nat, xe.1.2 = k := ⟨xe.1.2.toNat, by omega⟩
    have hx : x < a := by omega
    have hy : y < b := by omega
    have hsn : dnH (frFun a b g) (pre ++ [xe]) = updG (dnH (frFun a b g) pre) y x (frFun a b g (dnH (frFun a b g) pre) y x) := by
      rw [dnH_snoc, hxn, hyn, Int.toNat_natCast, Int.toNat_natCast]
    have hgl := dnH_lt (frFun a b g) pre ha
    obtain ⟨gp, hgp⟩ : ∃ q, dnH (frFun a b g) pre = q := ⟨_, rfl⟩
    rw [hgp] at hsn hgl b5
    rw [hxn, hyn] at h2 ⊢
    have C1 : Hid (∀ W, Calls Tryd.prog 90 #[.agg C, .int .i64 (x : Int), .int .i64 (y : Int)] W (SaysB (blackB a b g (x : Int) (y : Int)) W)) := CB.out _ _
    have C2 : Hid (∀ W, Calls Tryd.prog 91 #[.agg (mat a b gp), .agg #[.int .i64 (x : Int), .int .i64 (y : Int)]] W (SaysB (oddB a b gp (x : Int) (y : Int)) W)) := fun W => isOdd_any _ a b gp _ _ W rfl ha hb hgl (by omega) (by omega)
    have hsn2 : dnH (frFun a b g) (pre ++ [xe]) = updG gp y x (!(blackB a b g (x : Int) (y : Int) == oddB a b gp (x : Int) (y : Int))) := hsn
    obtain ⟨q1v, hq1⟩ : ∃ t, blackB a b g (x : Int) (y : Int) = t := ⟨_, rfl⟩
    obtain ⟨q2v, hq2⟩ : ∃ t, oddB a b gp (x : Int) (y : Int) = t := ⟨_, rfl⟩
    rw [hq1] at C1 hsn2
    rw [hq2] at C2 hsn2
    have HSn := Lib.hid hsn2
    obtain ⟨G, hG⟩ : ∃ G, mat a b gp = G := ⟨_, rfl⟩
    have hsG : G.size = 18 := by rw [← hG]; rfl
    have HIG : Hid ((Tryd.prog.info? 63).map (·.size) = some G.size) := by show _ = _; rw [hsG]; exact infoM
    rw [hG] at b5 C2
    have HX : Hid (∀ W, Below WB.heap.size WB W → W.cell? ⟨Bx, 0, none⟩ = some (.int .i64 (x : Int)) ∧ W.cell? ⟨Bx, 1, none⟩ = some (.int .i64 (y : Int))) := fun W hb => ⟨cell_kept hb (by rw [Joins.cell_of_block h2 0]; rfl), cell_kept hb (by rw [Joins.cell_of_block h2 1]; rfl)⟩
    have HMx : Hid (∀ W, Below WB.heap.size WB W → W.heap[w.heap.size]? = some (.cells C 63 (0, 0))) := fun W hb => (hb.block _ b0.lt).trans b0
    have HGx : Hid (∀ W, Below WB.heap.size WB W → W.heap[m5]? = some (.cells G 63 (0, 0))) := fun W hb => (hb.block _ b5.lt).trans b5
    have CSt : Hid (∀ W, Below WB.heap.size WB W → Calls Tryd.prog 75 #[.pointer (some ⟨m5, 0, none⟩), .int .i64 x, .int .i64 y, .bool (!(q1v == q2v))] W (fun e w' => e = .returned (.tuple #[]) ∧ SetX W w' m5 a b gp y x (!(q1v == q2v)))) := fun W hb => set_any2 m5 _ _ _ x y _ W (by rw [hG]; exact (hb.block _ b5.lt).trans b5) (by omega) (by omega) (hgl y)
    have G6 := Lib.hid b6
    have G7 := Lib.hid b7
    have G0 := Lib.hid b0
    have G1 := Lib.hid b1
    have G5 := Lib.hid b5
    have GB := Lib.hid hB
    have hl0 := hB.size
    clear hsn hsn2 hq1 hq2 hin b6 b7 b0 b1 b5 hB h2 hxn hyn c0 c1 c5 c6 c7 HB0 hgp hG hsG hgl hg CB CO
    apply wpIn_block
    refine wpIn_region_inv_at (by kernel_rfl) (by intro o ho; simp at ho; rcases ho with rfl | rfl | rfl | rfl | rfl | rfl | rfl | rfl | rfl | rfl | rfl | rfl | rfl | rfl | rfl <;> rfl) (fun A0 L A W => ∃ (b0 b1 b2 b3 b4 b5 b6 b7 b8 b9 b10 b11 b12 b13 b14 : Bool) (v13 v14 v15 v16 v17 v18 v19 v20 v21 v22 v23 v24 v25 v26 v27 : Value), L = #[b0, b1, b2, b3, b4, b5, b6, b7, b8, b9, b10, b11, b12, b13, b14] ∧ A = (((((((((((((((A0.put (some 13) v13).put (some 14) v14).put (some 15) v15).put (some 16) v16).put (some 17) v17).put (some 18) v18).put (some 19) v19).put (some 20) v20).put (some 21) v21).put (some 22) v22).put (some 23) v23).put (some 24) v24).put (some 25) v25).put (some 26) v26).put (some 27) v27) ∧ (∃ Wp, Below WB.heap.size WB Wp ∧ (if b14 = true then SetX Wp W m5 a b gp y x (!(q1v == q2v)) else W = Wp)) ∧ Hid (b0 = true → v13 = .pointer (some ⟨Bx, 0, none⟩)) ∧ Hid (b1 = true → v14 = .int .i64 (x : Int)) ∧ Hid (b2 = true → v15 = .pointer (some ⟨Bx, 1, none⟩)) ∧ Hid (b3 = true → v16 = .int .i64 (y : Int)) ∧ Hid (b4 = true → v17 = .agg C) ∧ Hid (b5 = true → v18 = .pointer (some ⟨Bx, 0, none⟩)) ∧ Hid (b6 = true → v19 = .int .i64 (x : Int)) ∧ Hid (b7 = true → v20 = .pointer (some ⟨Bx, 1, none⟩)) ∧ Hid (b8 = true → v21 = .int .i64 (y : Int)) ∧ Hid (b9 = true → v22 = .bool q1v) ∧ Hid (b10 = true → v23 = .agg G) ∧ Hid (b11 = true → v24 = .agg #[.int .i64 (x : Int), .int .i64 (y : Int)]) ∧ Hid (b12 = true → v25 = .bool q2v) ∧ Hid (b13 = true → v26 = .bool (!(q1v == q2v))) ∧ Hid (b14 = true → v27 = .tuple #[]) ∧ Hid ((b1 = false → b14 = false) ∧ (b3 = false → b14 = false) ∧ (b13 = false → b14 = false)) ∧ Hid (b1 = true → b0 = true) ∧ Hid (b3 = true → b2 = true) ∧ Hid (b9 = true → b4 = true) ∧ Hid (b6 = true → b5 = true) ∧ Hid (b9 = true → b6 = true) ∧ Hid (b8 = true → b7 = true) ∧ Hid (b9 = true → b8 = true) ∧ Hid (b13 = true → b9 = true) ∧ Hid (b12 = true → b10 = true) ∧ Hid (b12 = true → b11 = true) ∧ Hid (b13 = true → b12 = true)) ?_ ?_ ?_
    · intro A0
      refine ⟨false, false, false, false, false, false, false, false, false, false, false, false, false, false, false, A0.tmps.getD 13 undef, A0.tmps.getD 14 undef, A0.tmps.getD 15 undef, A0.tmps.getD 16 undef, A0.tmps.getD 17 undef, A0.tmps.getD 18 undef, A0.tmps.getD 19 undef, A0.tmps.getD 20 undef, A0.tmps.getD 21 undef, A0.tmps.getD 22 undef, A0.tmps.getD 23 undef, A0.tmps.getD 24 undef, A0.tmps.getD 25 undef, A0.tmps.getD 26 undef, A0.tmps.getD 27 undef, rfl, (by simp only [put_self]), ⟨_, (Below.refl _ _).drew, (by simp)⟩, Lib.hid (fun hf => by cases hf), Lib.hid (fun hf => by cases hf), Lib.hid (fun hf => by cases hf), Lib.hid (fun hf => by cases hf), Lib.hid (fun hf => by cases hf), Lib.hid (fun hf => by cases hf), Lib.hid (fun hf => by cases hf), Lib.hid (fun hf => by cases hf), Lib.hid (fun hf => by cases hf), Lib.hid (fun hf => by cases hf), Lib.hid (fun hf => by cases hf), Lib.hid (fun hf => by cases hf), Lib.hid (fun hf => by cases hf), Lib.hid (fun hf => by cases hf), Lib.hid (fun hf => by cases hf), Lib.hid ⟨fun _ => rfl, fun _ => rfl, fun _ => rfl⟩, Lib.hid (fun hf => by cases hf), Lib.hid (fun hf => by cases hf), Lib.hid (fun hf => by cases hf), Lib.hid (fun hf => by cases hf), Lib.hid (fun hf => by cases hf), Lib.hid (fun hf => by cases hf), Lib.hid (fun hf => by cases hf), Lib.hid (fun hf => by cases hf), Lib.hid (fun hf => by cases hf), Lib.hid (fun hf => by cases hf), Lib.hid (fun hf => by cases hf)⟩
    · intro L A W hI i hi o ho K' hK
      have hlt := (ready_left hi).1
      have hun := (ready_left hi).2
      have haf := ready_after hi ho
      clear hi
      obtain ⟨b0, b1, b2, b3, b4, b5, b6, b7, b8, b9, b10, b11, b12, b13, b14, v13, v14, v15, v16, v17, v18, v19, v20, v21, v22, v23, v24, v25, v26, v27, rfl, rfl, hB, h0, h1, h2, h3, h4, h5, h6, h7, h8, h9, h10, h11, h12, h13, h14, p, u1_0, u3_2, u9_4, u6_5, u9_6, u8_7, u9_8, u13_9, u12_10, u12_11, u13_12⟩ := hI
      have hc : i = 0 ∨ i = 1 ∨ i = 2 ∨ i = 3 ∨ i = 4 ∨ i = 5 ∨ i = 6 ∨ i = 7 ∨ i = 8 ∨ i = 9 ∨ i = 10 ∨ i = 11 ∨ i = 12 ∨ i = 13 ∨ i = 14 := by
        simp at hlt
        omega
      rcases hc with rfl | rfl | rfl | rfl | rfl | rfl | rfl | rfl | rfl | rfl | rfl | rfl | rfl | rfl | rfl
      all_goals (obtain rfl := Option.some.inj ho; clear ho; simp [Region.binds] at haf hun; (try simp only [List.getElem_toArray, List.getElem_cons_zero, List.getElem_cons_succ]); simp only [Act.put, List.setIfInBounds_toArray, List.set_cons_zero, List.set_cons_succ])
      · -- operation 0
        replace hK := Lib.hid hK
        have hmid0 : b1 = false := by cases hb : b1 with | false => rfl | true => exact absurd (show true = false from (u1_0.out hb).symm.trans hun) (by decide)
        have hlast : b14 = false := p.out.1 hmid0
        clear hmid0
        subst hlast
        obtain ⟨Wp, hB, hWp⟩ := hB
        have hWq : W = Wp := by simpa using hWp
        clear hWp
        subst hWq
        have q0 := (HX.out W hB).1
        have q1 := (HX.out W hB).2
        have q2 := HMx.out W hB
        have q3 := HGx.out W hB
        subst hun
        go_simp
        exact hK.out _ _ ⟨true, b1, b2, b3, b4, b5, b6, b7, b8, b9, b10, b11, b12, b13, false, .pointer (some ⟨Bx, 0, none⟩), v14, v15, v16, v17, v18, v19, v20, v21, v22, v23, v24, v25, v26, v27, rfl, (by simp only [Act.put, List.setIfInBounds_toArray, List.set_cons_zero, List.set_cons_succ]), ⟨_, hB, by simp⟩, Lib.hid (fun _ => rfl), h1, h2, h3, h4, h5, h6, h7, h8, h9, h10, h11, h12, h13, h14, Lib.hid ⟨(fun _ => rfl), (fun _ => rfl), (fun _ => rfl)⟩, Lib.hid (fun _ => rfl), u3_2, u9_4, u6_5, u9_6, u8_7, u9_8, u13_9, u12_10, u12_11, u13_12⟩
      · -- operation 1
        replace hK := Lib.hid hK
        have hlast : b14 = false := p.out.1 hun
        subst hlast
        obtain ⟨Wp, hB, hWp⟩ := hB
        have hWq : W = Wp := by simpa using hWp
        clear hWp
        subst hWq
        have q0 := (HX.out W hB).1
        have q1 := (HX.out W hB).2
        have q2 := HMx.out W hB
        have q3 := HGx.out W hB
        obtain rfl := (h0.out (by simp only [haf])).symm
        subst hun
        go_simp
        exact hK.out _ _ ⟨b0, true, b2, b3, b4, b5, b6, b7, b8, b9, b10, b11, b12, b13, false, .pointer (some ⟨Bx, 0, none⟩), .int .i64 (x : Int), v15, v16, v17, v18, v19, v20, v21, v22, v23, v24, v25, v26, v27, rfl, (by simp only [Act.put, List.setIfInBounds_toArray, List.set_cons_zero, List.set_cons_succ]), ⟨_, hB, by simp⟩, Lib.hid (fun _ => rfl), Lib.hid (fun _ => rfl), h2, h3, h4, h5, h6, h7, h8, h9, h10, h11, h12, h13, h14, Lib.hid ⟨(fun hf => by cases hf), (fun _ => rfl), (fun _ => rfl)⟩, Lib.hid (fun _ => (by simp only [haf])), u3_2, u9_4, u6_5, u9_6, u8_7, u9_8, u13_9, u12_10, u12_11, u13_12⟩
      · -- operation 2
        replace hK := Lib.hid hK
        have hmid0 : b3 = false := by cases hb : b3 with | false => rfl | true => exact absurd (show true = false from (u3_2.out hb).symm.trans hun) (by decide)
        have hlast : b14 = false := p.out.2.1 hmid0
        clear hmid0
        subst hlast
        obtain ⟨Wp, hB, hWp⟩ := hB
        have hWq : W = Wp := by simpa using hWp
        clear hWp
        subst hWq
        have q0 := (HX.out W hB).1
        have q1 := (HX.out W hB).2
        have q2 := HMx.out W hB
        have q3 := HGx.out W hB
        subst hun
        go_simp
        exact hK.out _ _ ⟨b0, b1, true, b3, b4, b5, b6, b7, b8, b9, b10, b11, b12, b13, false, v13, v14, .pointer (some ⟨Bx, 1, none⟩), v16, v17, v18, v19, v20, v21, v22, v23, v24, v25, v26, v27, rfl, (by simp only [Act.put, List.setIfInBounds_toArray, List.set_cons_zero, List.set_cons_succ]), ⟨_, hB, by simp⟩, h0, h1, Lib.hid (fun _ => rfl), h3, h4, h5, h6, h7, h8, h9, h10, h11, h12, h13, h14, Lib.hid ⟨(fun _ => rfl), (fun _ => rfl), (fun _ => rfl)⟩, u1_0, Lib.hid (fun _ => rfl), u9_4, u6_5, u9_6, u8_7, u9_8, u13_9, u12_10, u12_11, u13_12⟩
      · -- operation 3
        replace hK := Lib.hid hK
        have hlast : b14 = false := p.out.2.1 hun
        subst hlast
        obtain ⟨Wp, hB, hWp⟩ := hB
        have hWq : W = Wp := by simpa using hWp
        clear hWp
        subst hWq
        have q0 := (HX.out W hB).1
        have q1 := (HX.out W hB).2
        have q2 := HMx.out W hB
        have q3 := HGx.out W hB
        obtain rfl := (h2.out (by simp only [haf])).symm
        subst hun
        go_simp
        exact hK.out _ _ ⟨b0, b1, b2, true, b4, b5, b6, b7, b8, b9, b10, b11, b12, b13, false, v13, v14, .pointer (some ⟨Bx, 1, none⟩), .int .i64 (y : Int), v17, v18, v19, v20, v21, v22, v23, v24, v25, v26, v27, rfl, (by simp only [Act.put, List.setIfInBounds_toArray, List.set_cons_zero, List.set_cons_succ]), ⟨_, hB, by simp⟩, h0, h1, Lib.hid (fun _ => rfl), Lib.hid (fun _ => rfl), h4, h5, h6, h7, h8, h9, h10, h11, h12, h13, h14, Lib.hid ⟨(fun _ => rfl), (fun hf => by cases hf), (fun _ => rfl)⟩, u1_0, Lib.hid (fun _ => (by simp only [haf])), u9_4, u6_5, u9_6, u8_7, u9_8, u13_9, u12_10, u12_11, u13_12⟩
      · -- operation 4
        replace hK := Lib.hid hK
        have hmid0 : b9 = false := by cases hb : b9 with | false => rfl | true => exact absurd (show true = false from (u9_4.out hb).symm.trans hun) (by decide)
        have hmid1 : b13 = false := by cases hb : b13 with | false => rfl | true => exact absurd (show true = false from (u13_9.out hb).symm.trans hmid0) (by decide)
        have hlast : b14 = false := p.out.2.2 hmid1
        clear hmid0 hmid1
        subst hlast
        obtain ⟨Wp, hB, hWp⟩ := hB
        have hWq : W = Wp := by simpa using hWp
        clear hWp
        subst hWq
        have q0 := (HX.out W hB).1
        have q1 := (HX.out W hB).2
        have q2 := HMx.out W hB
        have q3 := HGx.out W hB
        subst hun
        refine wpIn_load_row 63 _ rfl w.heap.size rfl 63 C (0, 0) _ q2 Tryd.underlying63 rfl HIC.out ?_
        exact hK.out _ _ ⟨b0, b1, b2, b3, true, b5, b6, b7, b8, b9, b10, b11, b12, b13, false, v13, v14, v15, v16, .agg C, v18, v19, v20, v21, v22, v23, v24, v25, v26, v27, rfl, (by simp only [Act.put, List.setIfInBounds_toArray, List.set_cons_zero, List.set_cons_succ]), ⟨_, hB, by simp⟩, h0, h1, h2, h3, Lib.hid (fun _ => rfl), h5, h6, h7, h8, h9, h10, h11, h12, h13, h14, Lib.hid ⟨(fun _ => rfl), (fun _ => rfl), (fun _ => rfl)⟩, u1_0, u3_2, Lib.hid (fun _ => rfl), u6_5, u9_6, u8_7, u9_8, u13_9, u12_10, u12_11, u13_12⟩
      · -- operation 5
        replace hK := Lib.hid hK
        have hmid0 : b6 = false := by cases hb : b6 with | false => rfl | true => exact absurd (show true = false from (u6_5.out hb).symm.trans hun) (by decide)
        have hmid1 : b9 = false := by cases hb : b9 with | false => rfl | true => exact absurd (show true = false from (u9_6.out hb).symm.trans hmid0) (by decide)
        have hmid2 : b13 = false := by cases hb : b13 with | false => rfl | true => exact absurd (show true = false from (u13_9.out hb).symm.trans hmid1) (by decide)
        have hlast : b14 = false := p.out.2.2 hmid2
        clear hmid0 hmid1 hmid2
        subst hlast
        obtain ⟨Wp, hB, hWp⟩ := hB
        have hWq : W = Wp := by simpa using hWp
        clear hWp
        subst hWq
        have q0 := (HX.out W hB).1
        have q1 := (HX.out W hB).2
        have q2 := HMx.out W hB
        have q3 := HGx.out W hB
        subst hun
        go_simp
        exact hK.out _ _ ⟨b0, b1, b2, b3, b4, true, b6, b7, b8, b9, b10, b11, b12, b13, false, v13, v14, v15, v16, v17, .pointer (some ⟨Bx, 0, none⟩), v19, v20, v21, v22, v23, v24, v25, v26, v27, rfl, (by simp only [Act.put, List.setIfInBounds_toArray, List.set_cons_zero, List.set_cons_succ]), ⟨_, hB, by simp⟩, h0, h1, h2, h3, h4, Lib.hid (fun _ => rfl), h6, h7, h8, h9, h10, h11, h12, h13, h14, Lib.hid ⟨(fun _ => rfl), (fun _ => rfl), (fun _ => rfl)⟩, u1_0, u3_2, u9_4, Lib.hid (fun _ => rfl), u9_6, u8_7, u9_8, u13_9, u12_10, u12_11, u13_12⟩
      · -- operation 6
        replace hK := Lib.hid hK
        have hmid0 : b9 = false := by cases hb : b9 with | false => rfl | true => exact absurd (show true = false from (u9_6.out hb).symm.trans hun) (by decide)
        have hmid1 : b13 = false := by cases hb : b13 with | false => rfl | true => exact absurd (show true = false from (u13_9.out hb).symm.trans hmid0) (by decide)
        have hlast : b14 = false := p.out.2.2 hmid1
        clear hmid0 hmid1
        subst hlast
        obtain ⟨Wp, hB, hWp⟩ := hB
        have hWq : W = Wp := by simpa using hWp
        clear hWp
        subst hWq
        have q0 := (HX.out W hB).1
        have q1 := (HX.out W hB).2
        have q2 := HMx.out W hB
        have q3 := HGx.out W hB
        obtain rfl := (h5.out (by simp only [haf])).symm
        subst hun
        go_simp
        exact hK.out _ _ ⟨b0, b1, b2, b3, b4, b5, true, b7, b8, b9, b10, b11, b12, b13, false, v13, v14, v15, v16, v17, .pointer (some ⟨Bx, 0, none⟩), .int .i64 (x : Int), v20, v21, v22, v23, v24, v25, v26, v27, rfl, (by simp only [Act.put, List.setIfInBounds_toArray, List.set_cons_zero, List.set_cons_succ]), ⟨_, hB, by simp⟩, h0, h1, h2, h3, h4, Lib.hid (fun _ => rfl), Lib.hid (fun _ => rfl), h7, h8, h9, h10, h11, h12, h13, h14, Lib.hid ⟨(fun _ => rfl), (fun _ => rfl), (fun _ => rfl)⟩, u1_0, u3_2, u9_4, Lib.hid (fun _ => (by simp only [haf])), Lib.hid (fun _ => rfl), u8_7, u9_8, u13_9, u12_10, u12_11, u13_12⟩
      · -- operation 7
        replace hK := Lib.hid hK
        have hmid0 : b8 = false := by cases hb : b8 with | false => rfl | true => exact absurd (show true = false from (u8_7.out hb).symm.trans hun) (by decide)
        have hmid1 : b9 = false := by cases hb : b9 with | false => rfl | true => exact absurd (show true = false from (u9_8.out hb).symm.trans hmid0) (by decide)
        have hmid2 : b13 = false := by cases hb : b13 with | false => rfl | true => exact absurd (show true = false from (u13_9.out hb).symm.trans hmid1) (by decide)
        have hlast : b14 = false := p.out.2.2 hmid2
        clear hmid0 hmid1 hmid2
        subst hlast
        obtain ⟨Wp, hB, hWp⟩ := hB
        have hWq : W = Wp := by simpa using hWp
        clear hWp
        subst hWq
        have q0 := (HX.out W hB).1
        have q1 := (HX.out W hB).2
        have q2 := HMx.out W hB
        have q3 := HGx.out W hB
        subst hun
        go_simp
        exact hK.out _ _ ⟨b0, b1, b2, b3, b4, b5, b6, true, b8, b9, b10, b11, b12, b13, false, v13, v14, v15, v16, v17, v18, v19, .pointer (some ⟨Bx, 1, none⟩), v21, v22, v23, v24, v25, v26, v27, rfl, (by simp only [Act.put, List.setIfInBounds_toArray, List.set_cons_zero, List.set_cons_succ]), ⟨_, hB, by simp⟩, h0, h1, h2, h3, h4, h5, h6, Lib.hid (fun _ => rfl), h8, h9, h10, h11, h12, h13, h14, Lib.hid ⟨(fun _ => rfl), (fun _ => rfl), (fun _ => rfl)⟩, u1_0, u3_2, u9_4, u6_5, u9_6, Lib.hid (fun _ => rfl), u9_8, u13_9, u12_10, u12_11, u13_12⟩
      · -- operation 8
        replace hK := Lib.hid hK
        have hmid0 : b9 = false := by cases hb : b9 with | false => rfl | true => exact absurd (show true = false from (u9_8.out hb).symm.trans hun) (by decide)
        have hmid1 : b13 = false := by cases hb : b13 with | false => rfl | true => exact absurd (show true = false from (u13_9.out hb).symm.trans hmid0) (by decide)
        have hlast : b14 = false := p.out.2.2 hmid1
        clear hmid0 hmid1
        subst hlast
        obtain ⟨Wp, hB, hWp⟩ := hB
        have hWq : W = Wp := by simpa using hWp
        clear hWp
        subst hWq
        have q0 := (HX.out W hB).1
        have q1 := (HX.out W hB).2
        have q2 := HMx.out W hB
        have q3 := HGx.out W hB
        obtain rfl := (h7.out (by simp only [haf])).symm
        subst hun
        go_simp
        exact hK.out _ _ ⟨b0, b1, b2, b3, b4, b5, b6, b7, true, b9, b10, b11, b12, b13, false, v13, v14, v15, v16, v17, v18, v19, .pointer (some ⟨Bx, 1, none⟩), .int .i64 (y : Int), v22, v23, v24, v25, v26, v27, rfl, (by simp only [Act.put, List.setIfInBounds_toArray, List.set_cons_zero, List.set_cons_succ]), ⟨_, hB, by simp⟩, h0, h1, h2, h3, h4, h5, h6, Lib.hid (fun _ => rfl), Lib.hid (fun _ => rfl), h9, h10, h11, h12, h13, h14, Lib.hid ⟨(fun _ => rfl), (fun _ => rfl), (fun _ => rfl)⟩, u1_0, u3_2, u9_4, u6_5, u9_6, Lib.hid (fun _ => (by simp only [haf])), Lib.hid (fun _ => rfl), u13_9, u12_10, u12_11, u13_12⟩
      · -- operation 9
        replace hK := Lib.hid hK
        have hmid0 : b13 = false := by cases hb : b13 with | false => rfl | true => exact absurd (show true = false from (u13_9.out hb).symm.trans hun) (by decide)
        have hlast : b14 = false := p.out.2.2 hmid0
        clear hmid0
        subst hlast
        obtain ⟨Wp, hB, hWp⟩ := hB
        have hWq : W = Wp := by simpa using hWp
        clear hWp
        subst hWq
        have q0 := (HX.out W hB).1
        have q1 := (HX.out W hB).2
        have q2 := HMx.out W hB
        have q3 := HGx.out W hB
        obtain rfl := (h4.out (by simp only [haf])).symm
        obtain rfl := (h6.out (by simp only [haf])).symm
        obtain rfl := (h8.out (by simp only [haf])).symm
        subst hun
        go_simp
        refine ⟨trivial, ?_⟩
        refine (CallsIn.inRound l (callsIn_wide.2 (C1.out W))).mono ?_
        rintro e W' ⟨rfl, hb⟩
        have hkept := fun kb (hk : kb < W.heap.size) => hb.block kb hk
        exact hK.out _ _ ⟨b0, b1, b2, b3, b4, b5, b6, b7, b8, true, b10, b11, b12, b13, false, v13, v14, v15, v16, .agg C, v18, .int .i64 (x : Int), v20, .int .i64 (y : Int), .bool q1v, v23, v24, v25, v26, v27, rfl, (by simp only [Act.put, List.setIfInBounds_toArray, List.set_cons_zero, List.set_cons_succ]), ⟨_, hB.trans (hb.mono hB.size), by simp⟩, h0, h1, h2, h3, Lib.hid (fun _ => rfl), h5, Lib.hid (fun _ => rfl), h7, Lib.hid (fun _ => rfl), Lib.hid (fun _ => rfl), h10, h11, h12, h13, h14, Lib.hid ⟨(fun _ => rfl), (fun _ => rfl), (fun _ => rfl)⟩, u1_0, u3_2, Lib.hid (fun _ => (by simp only [haf])), u6_5, Lib.hid (fun _ => (by simp only [haf])), u8_7, Lib.hid (fun _ => (by simp only [haf])), Lib.hid (fun _ => rfl), u12_10, u12_11, u13_12⟩
      · -- operation 10
        replace hK := Lib.hid hK
        have hmid0 : b12 = false := by cases hb : b12 with | false => rfl | true => exact absurd (show true = false from (u12_10.out hb).symm.trans hun) (by decide)
        have hmid1 : b13 = false := by cases hb : b13 with | false => rfl | true => exact absurd (show true = false from (u13_12.out hb).symm.trans hmid0) (by decide)
        have hlast : b14 = false := p.out.2.2 hmid1
        clear hmid0 hmid1
        subst hlast
        obtain ⟨Wp, hB, hWp⟩ := hB
        have hWq : W = Wp := by simpa using hWp
        clear hWp
        subst hWq
        have q0 := (HX.out W hB).1
        have q1 := (HX.out W hB).2
        have q2 := HMx.out W hB
        have q3 := HGx.out W hB
        subst hun
        refine wpIn_load_row 63 _ rfl m5 rfl 63 G (0, 0) _ q3 Tryd.underlying63 rfl HIG.out ?_
        exact hK.out _ _ ⟨b0, b1, b2, b3, b4, b5, b6, b7, b8, b9, true, b11, b12, b13, false, v13, v14, v15, v16, v17, v18, v19, v20, v21, v22, .agg G, v24, v25, v26, v27, rfl, (by simp only [Act.put, List.setIfInBounds_toArray, List.set_cons_zero, List.set_cons_succ]), ⟨_, hB, by simp⟩, h0, h1, h2, h3, h4, h5, h6, h7, h8, h9, Lib.hid (fun _ => rfl), h11, h12, h13, h14, Lib.hid ⟨(fun _ => rfl), (fun _ => rfl), (fun _ => rfl)⟩, u1_0, u3_2, u9_4, u6_5, u9_6, u8_7, u9_8, u13_9, Lib.hid (fun _ => rfl), u12_11, u13_12⟩
      · -- operation 11
        replace hK := Lib.hid hK
        have hmid0 : b12 = false := by cases hb : b12 with | false => rfl | true => exact absurd (show true = false from (u12_11.out hb).symm.trans hun) (by decide)
        have hmid1 : b13 = false := by cases hb : b13 with | false => rfl | true => exact absurd (show true = false from (u13_12.out hb).symm.trans hmid0) (by decide)
        have hlast : b14 = false := p.out.2.2 hmid1
        clear hmid0 hmid1
        subst hlast
        obtain ⟨Wp, hB, hWp⟩ := hB
        have hWq : W = Wp := by simpa using hWp
        clear hWp
        subst hWq
        have q0 := (HX.out W hB).1
        have q1 := (HX.out W hB).2
        have q2 := HMx.out W hB
        have q3 := HGx.out W hB
        subst hun
        go_simp
        exact hK.out _ _ ⟨b0, b1, b2, b3, b4, b5, b6, b7, b8, b9, b10, true, b12, b13, false, v13, v14, v15, v16, v17, v18, v19, v20, v21, v22, v23, .agg #[.int .i64 (x : Int), .int .i64 (y : Int)], v25, v26, v27, rfl, (by simp only [Act.put, List.setIfInBounds_toArray, List.set_cons_zero, List.set_cons_succ]), ⟨_, hB, by simp⟩, h0, h1, h2, h3, h4, h5, h6, h7, h8, h9, h10, Lib.hid (fun _ => rfl), h12, h13, h14, Lib.hid ⟨(fun _ => rfl), (fun _ => rfl), (fun _ => rfl)⟩, u1_0, u3_2, u9_4, u6_5, u9_6, u8_7, u9_8, u13_9, u12_10, Lib.hid (fun _ => rfl), u13_12⟩
      · -- operation 12
        replace hK := Lib.hid hK
        have hmid0 : b13 = false := by cases hb : b13 with | false => rfl | true => exact absurd (show true = false from (u13_12.out hb).symm.trans hun) (by decide)
        have hlast : b14 = false := p.out.2.2 hmid0
        clear hmid0
        subst hlast
        obtain ⟨Wp, hB, hWp⟩ := hB
        have hWq : W = Wp := by simpa using hWp
        clear hWp
        subst hWq
        have q0 := (HX.out W hB).1
        have q1 := (HX.out W hB).2
        have q2 := HMx.out W hB
        have q3 := HGx.out W hB
        obtain rfl := (h10.out (by simp only [haf])).symm
        obtain rfl := (h11.out (by simp only [haf])).symm
        subst hun
        go_simp
        refine ⟨trivial, ?_⟩
        refine (CallsIn.inRound l (callsIn_wide.2 (C2.out W))).mono ?_
        rintro e W' ⟨rfl, hb⟩
        have hkept := fun kb (hk : kb < W.heap.size) => hb.block kb hk
        exact hK.out _ _ ⟨b0, b1, b2, b3, b4, b5, b6, b7, b8, b9, b10, b11, true, b13, false, v13, v14, v15, v16, v17, v18, v19, v20, v21, v22, .agg G, .agg #[.int .i64 (x : Int), .int .i64 (y : Int)], .bool q2v, v26, v27, rfl, (by simp only [Act.put, List.setIfInBounds_toArray, List.set_cons_zero, List.set_cons_succ]), ⟨_, hB.trans (hb.mono hB.size), by simp⟩, h0, h1, h2, h3, h4, h5, h6, h7, h8, h9, Lib.hid (fun _ => rfl), Lib.hid (fun _ => rfl), Lib.hid (fun _ => rfl), h13, h14, Lib.hid ⟨(fun _ => rfl), (fun _ => rfl), (fun _ => rfl)⟩, u1_0, u3_2, u9_4, u6_5, u9_6, u8_7, u9_8, u13_9, Lib.hid (fun _ => (by simp only [haf])), Lib.hid (fun _ => (by simp only [haf])), Lib.hid (fun _ => rfl)⟩
      · -- operation 13
        replace hK := Lib.hid hK
        have hlast : b14 = false := p.out.2.2 hun
        subst hlast
        obtain ⟨Wp, hB, hWp⟩ := hB
        have hWq : W = Wp := by simpa using hWp
        clear hWp
        subst hWq
        have q0 := (HX.out W hB).1
        have q1 := (HX.out W hB).2
        have q2 := HMx.out W hB
        have q3 := HGx.out W hB
        obtain rfl := (h9.out (by simp only [haf])).symm
        obtain rfl := (h12.out (by simp only [haf])).symm
        subst hun
        go_simp
        exact hK.out _ _ ⟨b0, b1, b2, b3, b4, b5, b6, b7, b8, b9, b10, b11, b12, true, false, v13, v14, v15, v16, v17, v18, v19, v20, v21, .bool q1v, v23, v24, .bool q2v, .bool (!(q1v == q2v)), v27, rfl, (by simp only [Act.put, List.setIfInBounds_toArray, List.set_cons_zero, List.set_cons_succ]), ⟨_, hB, by simp⟩, h0, h1, h2, h3, h4, h5, h6, h7, h8, Lib.hid (fun _ => rfl), h10, h11, Lib.hid (fun _ => rfl), Lib.hid (fun _ => rfl), h14, Lib.hid ⟨(fun _ => rfl), (fun _ => rfl), (fun hf => by cases hf)⟩, u1_0, u3_2, u9_4, u6_5, u9_6, u8_7, u9_8, Lib.hid (fun _ => (by simp only [haf])), u12_10, u12_11, Lib.hid (fun _ => (by simp only [haf]))⟩
      · -- operation 14
        replace hK := Lib.hid hK
        subst hun
        obtain ⟨Wp, hB, hWp⟩ := hB
        have hWq : W = Wp := by simpa using hWp
        clear hWp
        subst hWq
        have q0 := (HX.out W hB).1
        have q1 := (HX.out W hB).2
        have q2 := HMx.out W hB
        have q3 := HGx.out W hB
        obtain rfl := (h1.out (by simp only [haf])).symm
        obtain rfl := (h3.out (by simp only [haf])).symm
        obtain rfl := (h13.out (by simp only [haf])).symm
        go_simp
        refine ⟨trivial, ?_⟩
        refine (CallsIn.inRound l (callsIn_wide.2 (CSt.out W hB))).mono ?_
        rintro e W' ⟨rfl, hset⟩
        exact hK.out _ _ ⟨b0, b1, b2, b3, b4, b5, b6, b7, b8, b9, b10, b11, b12, b13, true, v13, .int .i64 (x : Int), v15, .int .i64 (y : Int), v17, v18, v19, v20, v21, v22, v23, v24, v25, .bool (!(q1v == q2v)), .tuple #[], rfl, (by simp only [Act.put, List.setIfInBounds_toArray, List.set_cons_zero, List.set_cons_succ]), ⟨_, hB, by simpa using hset⟩, h0, Lib.hid (fun _ => rfl), h2, Lib.hid (fun _ => rfl), h4, h5, h6, h7, h8, h9, h10, h11, h12, Lib.hid (fun _ => rfl), Lib.hid (fun _ => rfl), Lib.hid ⟨(fun hf => absurd (show false = true from hf.symm.trans (by simp only [haf])) (by decide)), (fun hf => absurd (show false = true from hf.symm.trans (by simp only [haf])) (by decide)), (fun hf => absurd (show false = true from hf.symm.trans (by simp only [haf])) (by decide))⟩, u1_0, u3_2, u9_4, u6_5, u9_6, u8_7, u9_8, u13_9, u12_10, u12_11, u13_12⟩
    intro L A W hI hr
    obtain ⟨b0, b1, b2, b3, b4, b5, b6, b7, b8, b9, b10, b11, b12, b13, b14, v13, v14, v15, v16, v17, v18, v19, v20, v21, v22, v23, v24, v25, v26, v27, rfl, rfl, hB, h0, h1, h2, h3, h4, h5, h6, h7, h8, h9, h10, h11, h12, h13, h14, p, u1_0, u3_2, u9_4, u6_5, u9_6, u8_7, u9_8, u13_9, u12_10, u12_11, u13_12⟩ := hI
    have d0 := ready_done hr 0 _ rfl (by simp [Region.binds])
    simp at d0
    subst d0
    have d1 := ready_done hr 1 _ rfl (by simp [Region.binds])
    simp at d1
    subst d1
    have d2 := ready_done hr 2 _ rfl (by simp [Region.binds])
    simp at d2
    subst d2
    have d3 := ready_done hr 3 _ rfl (by simp [Region.binds])
    simp at d3
    subst d3
    have d4 := ready_done hr 4 _ rfl (by simp [Region.binds])
    simp at d4
    subst d4
    have d5 := ready_done hr 5 _ rfl (by simp [Region.binds])
    simp at d5
    subst d5
    have d6 := ready_done hr 6 _ rfl (by simp [Region.binds])
    simp at d6
    subst d6
    have d7 := ready_done hr 7 _ rfl (by simp [Region.binds])
    simp at d7
    subst d7
    have d8 := ready_done hr 8 _ rfl (by simp [Region.binds])
    simp at d8
    subst d8
    have d9 := ready_done hr 9 _ rfl (by simp [Region.binds])
    simp at d9
    subst d9
    have d10 := ready_done hr 10 _ rfl (by simp [Region.binds])
    simp at d10
    subst d10
    have d11 := ready_done hr 11 _ rfl (by simp [Region.binds])
    simp at d11
    subst d11
    have d12 := ready_done hr 12 _ rfl (by simp [Region.binds])
    simp at d12
    subst d12
    have d13 := ready_done hr 13 _ rfl (by simp [Region.binds])
    simp at d13
    subst d13
    have d14 := ready_done hr 14 _ rfl (by simp [Region.binds])
    simp at d14
    subst d14
    obtain rfl := (h0.out rfl).symm
    obtain rfl := (h1.out rfl).symm
    obtain rfl := (h2.out rfl).symm
    obtain rfl := (h3.out rfl).symm
    obtain rfl := (h4.out rfl).symm
    obtain rfl := (h5.out rfl).symm
    obtain rfl := (h6.out rfl).symm
    obtain rfl := (h7.out rfl).symm
    obtain rfl := (h8.out rfl).symm
    obtain rfl := (h9.out rfl).symm
    obtain rfl := (h10.out rfl).symm
    obtain rfl := (h11.out rfl).symm
    obtain rfl := (h12.out rfl).symm
    obtain rfl := (h13.out rfl).symm
    obtain rfl := (h14.out rfl).symm
    obtain ⟨Wp, hB, hWp⟩ := hB
    have hSet : SetX Wp W m5 a b gp y x (!(q1v == q2v)) := by simpa using hWp
    clear hWp
    simp only [Act.put, List.setIfInBounds_toArray, List.set_cons_zero, List.set_cons_succ]
    clear hr h0 h1 h2 h3 h4 h5 h6 h7 h8 h9 h10 h11 h12 h13 h14 p u1_0 u3_2 u9_4 u6_5 u9_6 u8_7 u9_8 u13_9 u12_10 u12_11 u13_12
    have KO : ∀ k, k ≠ m5 → k < WB.heap.size → W.heap[k]? = WB.heap[k]? := fun k hk hlt => (hSet.2.2.1 k hk).trans (hB.block k hlt)
    gi_wp2
    refine ⟨⟨by rw [hSet.2.2.2]; exact hB.size, fun k o hk hko _ => (KO k (by omega) (Array.getElem?_eq_some_iff.1 hko).1).trans hko⟩, ⟨KO _ (by omega) G6.out.lt, KO _ (by omega) G7.out.lt⟩, ⟨⟨⟨⟨⟨(KO _ (by omega) G6.out.lt).trans G6.out, (KO _ (by omega) G7.out.lt).trans G7.out⟩, (KO _ (by omega) G0.out.lt).trans G0.out⟩, (KO _ (by omega) G1.out.lt).trans G1.out⟩, by rw [HSn.out]; exact hSet.1⟩, (GB.out.trans (hB.mono hl0)).trans (hSet.2.1.mono (by omega))⟩⟩
  case done =>
    rintro D ys W hD rfl ⟨⟨⟨⟨⟨b6, b7⟩, b0⟩, b1⟩, b5⟩, hB⟩ hK
    have hIm : Hid ((Tryd.prog.info? 63).map (·.size) = some (mat a b (dnH (frFun a b g) ((gGrid a b ha1 hb1).list (b * a)))).size) := infoM
    have hIz : Hid (zeros.size = (mat a b (dnH (frFun a b g) ((gGrid a b ha1 hb1).list (b * a)))).size) := rfl
    have hIo : Hid ((mat a b (dnH (frFun a b g) ((gGrid a b ha1 hb1).list (b * a)))).all (·.oneCell') = true) := mcells_one _ _ _
    have h5' : Blk W m5 (mat a b (dnH (frFun a b g) ((gGrid a b ha1 hb1).list (b * a)))) 63 := b5
    obtain ⟨P2, hP2⟩ : ∃ P, mat a b (dnH (frFun a b g) ((gGrid a b ha1 hb1).list (b * a))) = P := ⟨_, rfl⟩
    have HP2 := Lib.hid hP2
    rw [hP2] at hIm hIz hIo h5'
    have h5 : Hid (Blk W m5 P2 63) := h5'
    have h1 : Hid (Blk W (w.heap.size + 1) zeros 63) := b1
    have hK' : (W.setRow (w.heap.size + 1) P2).heap[D]? = some (.deferred (some [])) := (setRow_other W _ _ P2 (by omega)).trans hK
    have hR : ((W.setRow (w.heap.size + 1) P2).putObj D (.deferred none)).heap[w.heap.size + 1]? = some (.cells P2 63 (0, 0)) := by
      rw [World.putObj_heap_other (by omega)]
      exact setRow_heap _ _ _ _ _ _ b1
    have hBe : Below w.heap.size w (W.setRow (w.heap.size + 1) P2) := setRow_below hB (by omega) P2
    have HKK := Lib.hid hK'
    have HRR := Lib.hid hR
    have HBE := Lib.hid hBe
    clear b0 b1 b5 b6 b7 h5' hP2 hK hK' hR hB hBe c0 c1 c5 c6 c7 HB0 hg CB CO
    gi_wp2_with (first | (refine wpListIn_load_row rfl 63 _ rfl m5 rfl 63 P2 (0, 0) _ h5.out Tryd.underlying63 rfl hIm.out ?_) | (refine wpListIn_store_row rfl 63 _ _ rfl (w.heap.size + 1) P2 rfl rfl 63 zeros h1.out hIm.out hIz.out hIo.out ?_))
    rw [HP2.out]
    refine ⟨by simp, .inl ⟨_, _, rfl, run_takeDeferred HKK.out, ?_⟩⟩
    exact ⟨_, results_cell1 (p := 2) (ty := 63) Tryd.results50 _ _ (w.heap.size + 1) 63 P2 (0, 0) _ rfl HRR.out Tryd.underlying63 rfl hIm.out, rfl, HBE.out.trans (belowK_b (w := w) (Nat.le_refl _) _ D _ _ (by omega) HKK.out rfl rfl)⟩
  case stop =>
    rintro D c pre W _ _ h _
    exact h.elim
end Go.Proofs.YtnmnlbgialolhaaDoor
