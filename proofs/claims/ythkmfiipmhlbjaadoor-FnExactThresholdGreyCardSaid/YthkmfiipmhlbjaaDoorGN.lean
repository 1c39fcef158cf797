/- Contracts of single functions, and plain lemmas, on which the exact laws of this seat rest; each holds under the conditions that it states. -/
import Derived.Test.YthkmfiipmhlbjaaDoorGP
import Derived.Test.YthkmfiipmhlbjaaDoorRJ
import Derived.Test.YthkmfiipmhlbjaaDoorS5
namespace Go.Proofs.YthkmfiipmhlbjaaDoor
set_option linter.unusedVariables false
set_option linter.unusedSimpArgs false
open Go.RowKit Go.Shelf
attribute [local go_sem] Oper.semAt_some

theorem BlkG.own {β : Type} (g : Nat) (C : β → Array Value) (t : TypeId) : Own (fun (x : β) W => Blk W g (C x) t) := fun s X Y row hs hg hrow =>
  Blk.own (β := Unit) g (C s) t () X Y row hs hg hrow

set_option maxRecDepth 100000 in
set_option maxHeartbeats 4000000 in
theorem pixPic_any {m : Int} (v : Value) (gs : List (List Int)) (lv : Int) (lb : Nat) (w : World) (V : VG m gs) (hv : SlG w v gs) (hl : w.cell? ⟨lb, 0, none⟩ = some (.int .i64 lv)) :
    Calls Tryd.prog 102 #[v, .func (.func 103) #[] #[.pointer (some ⟨lb, 0, none⟩)]] w (TookPic w (mkPic (rowF gs 0).length gs.length (thF gs lv))) := by
  refine (callsIn_wide (n := 6)).1 ?_
  have CS : Hid (∀ W, Below w.heap.size w W → Calls Tryd.prog 92 #[v] W (fun e w' => e = .returned (.agg (mcells (rowF gs 0).length gs.length (fun _ => 0))) ∧ Below W.heap.size W w')) := fun W hb => sizeG_any v gs W V (hv.below hb)
  have CPi : Hid (∀ W, Calls Tryd.prog 140 #[.agg (mat (rowF gs 0).length gs.length (dnG (thF gs lv) ((gGrid (rowF gs 0).length gs.length V.w1 V.n1).list (gs.length * (rowF gs 0).length))))] W (TookPic W (mkPic (rowF gs 0).length gs.length (thF gs lv)))) := fun W => dn_pic _ _ V.w1 V.n1 V.w16 V.n16 _ W
  obtain ⟨M, hM⟩ : ∃ M, mcells (rowF gs 0).length gs.length (fun _ => 0) = M := ⟨_, rfl⟩
  have hsz : M.size = 18 := by rw [← hM]; rfl
  have HI : Hid ((Tryd.prog.info? 95).map (·.size) = some M.size) := by show _ = _; rw [hsz]; exact infoM
  have HZ0 : Hid (zeros.size = M.size) := by show _ = _; rw [hsz]; rfl
  have HO : Hid (M.all (·.oneCell') = true) := by show _ = _; rw [← hM]; exact mcells_one _ _ _
  rw [hM] at CS
  obtain ⟨ao, cap, rfl, ho⟩ := hv.open'
  obtain ⟨b, off, rfl, hbl, hrow⟩ := ho V.n1
  have hb3 := Joins.below_alloc3 w (.cells #[.slice (some ⟨b, off, none⟩) gs.length cap] 61) (.cells #[.func (.func 103) #[] #[.pointer (some ⟨lb, 0, none⟩)]] 129) (.cells #[.slice none 0 0] 33)
  have p0 := heap_alloc_last w (.cells #[.slice (some ⟨b, off, none⟩) gs.length cap] 61)
  refine callsIn_of_wp_marks Tryd.func102 rfl trivial ?_ rfl
  simp only [Tryd.ntmps102, List.size_toArray, List.length_cons, List.length_nil, Nat.reduceAdd, Nat.reduceSub, Array.replicate_succ, Array.replicate_zero, List.push_toArray, List.append_toArray, List.nil_append, List.cons_append]
  gi_wp2_with (refine ⟨trivial, ?_⟩; gi_at_call 92; refine (callsIn_wide.2 (CS.out _ hb3)).mono ?_; rintro e w1 ⟨rfl, hb1⟩; refine Hid.out ?_)
  refine Lib.hid ?_
  gi_wp2_with (refine wpListIn_store_new w1 rfl 95 _ _ rfl M rfl rfl 95 zeros HI.out HZ0.out HO.out ?_; refine Hid.out ?_)
  refine Lib.hid ?_
  have b2 : Hid (Blk (w1.alloc (.cells M 95)) w1.heap.size M 95) := heap_alloc_last w1 _
  gi_wp2_with (first | (refine wpListIn_load_row rfl 95 _ rfl w1.heap.size rfl 95 M (0, 0) _ b2.out Tryd.underlying95 rfl HI.out ?_) | (refine ⟨trivial, ?_⟩; gi_at_call 93; refine (callsIn_wide.2 (spots_any M 0 _ hsz)).mono ?_; rintro e w3 ⟨rfl, rfl⟩; refine Hid.out ?_))
  refine Lib.hid ?_
  gi_wp2
  have hM2 : ∀ (W : World) (g : Nat), W.heap[g]? = some (.cells M 95 (0, 0)) → W.cell? ⟨g, 0, none⟩ = some (.int .i64 (rowF gs 0).length) ∧ W.cell? ⟨g, 1, none⟩ = some (.int .i64 gs.length) := fun W g h => by
    rw [← hM] at h
    exact ⟨by rw [Joins.cell_of_block h 0]; rfl, by rw [Joins.cell_of_block h 1]; rfl⟩
  have q0 : Blk ((((w.alloc (.cells #[.slice (some ⟨b, off, none⟩) gs.length cap] 61)).alloc (.cells #[.func (.func 103) #[] #[.pointer (some ⟨lb, 0, none⟩)]] 129)).alloc (.cells #[.slice none 0 0] 33))) w.heap.size #[.slice (some ⟨b, off, none⟩) gs.length cap] 61 := by
    show _ = _
    rw [Below.heap_alloc _ _ _ (by first | (simp; done) | (simp; omega)), Below.heap_alloc _ _ _ (by first | (simp; done) | (simp; omega))]; exact heap_alloc_last w _
  have q1 : Blk ((((w.alloc (.cells #[.slice (some ⟨b, off, none⟩) gs.length cap] 61)).alloc (.cells #[.func (.func 103) #[] #[.pointer (some ⟨lb, 0, none⟩)]] 129)).alloc (.cells #[.slice none 0 0] 33))) (w.heap.size + 1) #[.func (.func 103) #[] #[.pointer (some ⟨lb, 0, none⟩)]] 129 := by
    show _ = _
    rw [Below.heap_alloc _ _ _ (by first | (simp; done) | (simp; omega))]
    exact heap_alloc2_new _ _ _
  have q2 : Blk ((((w.alloc (.cells #[.slice (some ⟨b, off, none⟩) gs.length cap] 61)).alloc (.cells #[.func (.func 103) #[] #[.pointer (some ⟨lb, 0, none⟩)]] 129)).alloc (.cells #[.slice none 0 0] 33))) (w.heap.size + 1 + 1) #[.slice none 0 0] 33 := by
    have := heap_alloc_last ((w.alloc (.cells #[.slice (some ⟨b, off, none⟩) gs.length cap] 61)).alloc (.cells #[.func (.func 103) #[] #[.pointer (some ⟨lb, 0, none⟩)]] 129)) (.cells #[.slice none 0 0] 33)
    simp only [World.size_alloc] at this
    exact this
  have r0 := q0.below hb1
  have r1 := q1.below hb1
  have r2 := q2.below hb1
  have hbw : Below w.heap.size w w1 := hb3.trans (hb1.mono (by simp; omega))
  have hm0 : w.heap.size + 1 + 1 < w1.heap.size := r2.lt
  obtain ⟨W0, hW0⟩ : ∃ W0, ((w1.alloc (.cells M 95)).alloc (.cells M 95)).alloc (.cells #[.int .i64 0] 2) = W0 := ⟨_, rfl⟩
  have hs0 : W0.heap.size = w1.heap.size + 1 + 1 + 1 := by rw [← hW0]; simp
  have c5 : Blk W0 w1.heap.size M 95 := by rw [← hW0]; exact (b2.out.alloc _).alloc _
  have c6 : Blk W0 (w1.heap.size + 1) M 95 := by
    rw [← hW0]
    exact Blk.alloc (heap_alloc2_new _ _ _) _
  have c7 : Blk W0 (w1.heap.size + 1 + 1) #[.int .i64 0] 2 := by
    rw [← hW0]
    have := heap_alloc_last ((w1.alloc (.cells M 95)).alloc (.cells M 95)) (.cells #[.int .i64 0] 2)
    simp only [World.size_alloc] at this
    exact this
  have c0 : Blk W0 w.heap.size #[.slice (some ⟨b, off, none⟩) gs.length cap] 61 := by rw [← hW0]; exact ((r0.alloc _).alloc _).alloc _
  have c1 : Blk W0 (w.heap.size + 1) #[.func (.func 103) #[] #[.pointer (some ⟨lb, 0, none⟩)]] 129 := by rw [← hW0]; exact ((r1.alloc _).alloc _).alloc _
  have c2 : Blk W0 (w.heap.size + 1 + 1) #[.slice none 0 0] 33 := by rw [← hW0]; exact ((r2.alloc _).alloc _).alloc _
  have HB0 : Below w.heap.size w W0 := by rw [← hW0]; exact ((hbw.alloc hbw.size _).alloc (by have := hbw.size; simp; omega) _).alloc (by have := hbw.size; simp; omega) _
  rw [hW0]
  have hM0 : M = mat (rowF gs 0).length gs.length (dnG (thF gs lv) ([] : List { q : Int × Int // InG (rowF gs 0).length gs.length q })) := by rw [← hM]; rfl
  have HM0 := Lib.hid hM0
  have HMm := Lib.hid hM
  clear hM0 hM q0 q1 q2 r0 r1 r2 b2 hb1 hb3 p0 hbw hW0
  obtain ⟨m5, hm5⟩ : ∃ m, w1.heap.size = m := ⟨_, rfl⟩
  rw [hm5] at hs0 c5 c6 c7 hm0 ⊢
  clear hm5
  have w1' := V.w1
  have n1' := V.n1
  have w16' := V.w16
  have n16' := V.n16
  refine wpIn_rangeFunc_ownH rfl (by omega) (gf := 134) (lb := #[.pointer (some ⟨m5 + 1 + 1, 0, none⟩), .pointer (some ⟨m5 + 1, 0, none⟩)]) rfl trivial (enters_of Tryd.func134 (by kernel_rfl) rfl)
    (spots_stops (gGrid (rowF gs 0).length gs.length V.w1 V.n1) M (rowF gs 0).length gs.length (m5 + 1) (m5 + 1 + 1) w16' n16' (by show 0 ≤ 2; omega) (by show (rowF gs 0).length = (rowF gs 0).length + 2 * 0; omega) (by show gs.length = gs.length + 2 * 0; omega) (fun W h => hM2 W _ h) Fence.wide (6 - 1) trivial rfl (by omega) W0 c6 c7) two2_t (two2_b (by omega) (by omega)) (Below.refl _ _) (fun _ => rfl)
    (fun pre W => (((((Blk W (m5 + 1) M 95 ∧ Blk W (m5 + 1 + 1) #[.int .i64 0] 2) ∧ Blk W w.heap.size #[.slice (some ⟨b, off, none⟩) gs.length cap] 61) ∧ Blk W (w.heap.size + 1) #[.func (.func 103) #[] #[.pointer (some ⟨lb, 0, none⟩)]] 129) ∧ Blk W (w.heap.size + 1 + 1) #[.slice none 0 0] 33) ∧ Blk W m5 (mat (rowF gs 0).length gs.length (dnG (thF gs lv) pre)) 95) ∧ Below w.heap.size w W)
    (fun _ _ _ => False)
    (OwnFrom.and (OwnFrom.and (OwnFrom.and (OwnFrom.and (OwnFrom.and (OwnFrom.and (Own.from (Blk.own _ _ _) _) (Own.from (Blk.own _ _ _) _)) (Own.from (Blk.own _ _ _) _)) (Own.from (Blk.own _ _ _) _)) (Own.from (Blk.own _ _ _) _)) (Own.from (BlkG.own m5 (fun pre => mat (rowF gs 0).length gs.length (dnG (thF gs lv) pre)) 95) _)) (ownFrom_below (Nat.le_refl _) (by omega)))
    (fun _ _ _ _ _ hs _ _ => hs)
    ⟨⟨⟨⟨⟨⟨c6, c7⟩, c0⟩, c1⟩, c2⟩, by rw [← HM0.out]; exact c5⟩, HB0⟩
    (fun x a' W => ∃ Bx, m5 + 1 + 1 < Bx ∧ Blk W Bx #[.int .i64 x.1.1, .int .i64 x.1.2] 101 ∧ a' = { tmps := #[.slice (some ⟨b, off, none⟩) gs.length cap, .func (.func 103) #[] #[.pointer (some ⟨lb, 0, none⟩)], .pointer (some ⟨w.heap.size, 0, none⟩), .pointer (some ⟨w.heap.size + 1, 0, none⟩), .pointer (some ⟨w.heap.size + 1 + 1, 0, none⟩), .pointer (some ⟨m5, 0, none⟩), .pointer (some ⟨Bx, 0, none⟩), .slice (some ⟨b, off, none⟩) gs.length cap, .agg M, .agg M, .func (.func 134) #[] #[.pointer (some ⟨m5 + 1 + 1, 0, none⟩), .pointer (some ⟨m5 + 1, 0, none⟩)], .agg #[.int .i64 x.1.1, .int .i64 x.1.2], undef, undef, undef, undef, undef, undef, undef, undef, undef, undef, undef, undef, undef, undef], defers := [] })
    (fun x a' s X Y row hs hg hrow => by
      obtain ⟨Bx, hBx, h2, he⟩ := hs
      exact ⟨Bx, hBx, Blk.own (β := Unit) _ _ _ () X Y row h2 hg (fun r e => (hrow r e).2), he⟩)
    ?assign ?body ?done ?stop
  case assign =>
    rintro l pre x W K ⟨⟨⟨⟨⟨⟨b6, b7⟩, b0⟩, b1⟩, b2⟩, b5⟩, hB⟩ hK
    have hs := hB.size
    have hlt := b7.lt
    simp only [encP]
    gi_wp2
    exact hK _ _ ((KeepsOthers.alloc _ _).from _) (two2_below b6.lt b7.lt (Joins.below_alloc1 _ _)) ⟨⟨⟨⟨⟨⟨b6.alloc _, b7.alloc _⟩, b0.alloc _⟩, b1.alloc _⟩, b2.alloc _⟩, b5.alloc _⟩, hB.alloc hs _⟩ ⟨W.heap.size, hlt, heap_alloc_last W _, rfl⟩
  case body =>
    rintro l pre xe a' WB hl' _ ⟨⟨⟨⟨⟨⟨b6, b7⟩, b0⟩, b1⟩, b2⟩, b5⟩, hB⟩ ⟨Bx, hBx, h2, rfl⟩ hlt
    have hin := xe.2
    unfold InG at hin
    obtain ⟨x, hxn⟩ : ∃ k : Nat, xe.1.1 = k := ⟨xe.1.1.toNat, by omega⟩
    obtain ⟨y, hyn⟩ : ∃ k : Nat, xe.1.2 = k := ⟨xe.1.2.toNat, by omega⟩
    have hx : x < (rowF gs 0).length := by omega
    have hy : y < gs.length := by omega
    obtain ⟨ay, cy, h1, _, h3⟩ := hrow y hy
    have hlen := V.len y hy
    obtain ⟨b2', o2, rfl, _, hcs⟩ := h3 (by omega)
    have hzc := hcs x (by omega)
    rw [hlen] at h1
    have hsn : dnG (thF gs lv) (pre ++ [xe]) = updG (dnG (thF gs lv) pre) y x (thF gs lv y x) := by
      rw [dn_snoc, hxn, hyn, Int.toNat_natCast, Int.toNat_natCast]
    obtain ⟨z, hz⟩ : ∃ z, (rowF gs y).getD x 0 = z := ⟨_, rfl⟩
    have hbt0 : thF gs lv y x = decide (lv ≤ z) := by unfold thF; rw [hz]
    rw [hz] at hzc
    obtain ⟨bt, hbt⟩ : ∃ c, decide (lv ≤ z) = c := ⟨_, rfl⟩
    rw [hbt] at hbt0
    rw [hbt0] at hsn
    rw [hxn, hyn] at h2 ⊢
    have HSn := Lib.hid hsn
    have HX : Hid (∀ W, Below WB.heap.size WB W → W.cell? ⟨Bx, 0, none⟩ = some (.int .i64 (x : Int)) ∧ W.cell? ⟨Bx, 1, none⟩ = some (.int .i64 (y : Int))) := fun W hb => ⟨cell_kept hb (by rw [Joins.cell_of_block h2 0]; rfl), cell_kept hb (by rw [Joins.cell_of_block h2 1]; rfl)⟩
    have HF : Hid (∀ W, Below WB.heap.size WB W → W.cell? ⟨w.heap.size, 0, none⟩ = some (.slice (some ⟨b, off, none⟩) gs.length cap) ∧ W.cell? ⟨w.heap.size + 1, 0, none⟩ = some (.func (.func 103) #[] #[.pointer (some ⟨lb, 0, none⟩)])) := fun W hb => ⟨cell_kept hb (cell_of_one b0), cell_kept hb (cell_of_one b1)⟩
    have HZ : Hid (∀ W, Below WB.heap.size WB W → W.cell? ⟨b2', o2 + x, none⟩ = some (.int .i64 z)) := fun W hb => cell_kept hb (cell_kept hB hzc)
    have CA : Hid (∀ W, Below WB.heap.size WB W → Calls Tryd.prog 75 #[.slice (some ⟨b, off, none⟩) gs.length cap, .agg #[.int .i64 x, .int .i64 y]] W (fun e w' => e = .returned (.pointer (some ⟨b2', o2 + x, none⟩)) ∧ Below W.heap.size W w')) := fun W hb => atG_at b off gs.length cap _ b2' o2 cy x y W hx hy (cell_kept hb (cell_kept hB h1))
    have CRu : Hid (∀ W, Below WB.heap.size WB W → Calls Tryd.prog 103 #[.int .i64 z, .pointer (some ⟨lb, 0, none⟩)] W (fun e w' => e = .returned (.bool bt) ∧ Below W.heap.size W w')) := fun W hb => (thRule_any z lv lb W (cell_kept hb (cell_kept hB hl))).mono fun e w' ⟨h1, h2⟩ => ⟨by rw [h1, hbt], by rw [← h2]; exact Below.refl _ _⟩
    have CSt : Hid (∀ W, Below WB.heap.size WB W → Calls Tryd.prog 139 #[.pointer (some ⟨m5, 0, none⟩), .int .i64 x, .int .i64 y, .bool bt] W (fun e w' => e = .returned (.tuple #[]) ∧ SetX W w' m5 (rowF gs 0).length gs.length (dnG (thF gs lv) pre) y x bt)) := fun W hb => set_any2 m5 _ _ _ x y bt W ((hb.block _ b5.lt).trans b5) (by omega) (by omega) (dn_lt _ _ w16' y)
    have G6 := Lib.hid b6
    have G7 := Lib.hid b7
    have G0 := Lib.hid b0
    have G1 := Lib.hid b1
    have G2 := Lib.hid b2
    have G5 := Lib.hid b5
    have GB := Lib.hid hB
    have hl0 := hB.size
    clear hsn hzc hcs h3 h1 hbt hbt0 hz hin b6 b7 b0 b1 b2 b5 hB h2 hlen hxn hyn hv hl ho hrow c0 c1 c2 c5 c6 c7 hbl HB0
    obtain ⟨bz, hbz⟩ : ∃ k, b2' = k := ⟨_, rfl⟩
    subst hbz
    apply wpIn_block
    refine wpIn_region_inv_at (by kernel_rfl) (by intro o ho; simp at ho; rcases ho with rfl | rfl | rfl | rfl | rfl | rfl | rfl | rfl | rfl | rfl | rfl | rfl <;> rfl) (fun A0 L A W => ∃ (b0 b1 b2 b3 b4 b5 b6 b7 b8 b9 b10 b11 : Bool) (v12 v13 v14 v15 v16 v17 v18 v19 v20 v21 v22 v23 : Value), L = #[b0, b1, b2, b3, b4, b5, b6, b7, b8, b9, b10, b11] ∧ A = ((((((((((((A0.put (some 12) v12).put (some 13) v13).put (some 14) v14).put (some 15) v15).put (some 16) v16).put (some 17) v17).put (some 18) v18).put (some 19) v19).put (some 20) v20).put (some 21) v21).put (some 22) v22).put (some 23) v23) ∧ (∃ Wp, Below WB.heap.size WB Wp ∧ (if b11 = true then SetX Wp W m5 (rowF gs 0).length gs.length (dnG (thF gs lv) pre) y x bt else W = Wp)) ∧ Hid (b0 = true → v12 = .pointer (some ⟨Bx, 0, none⟩)) ∧ Hid (b1 = true → v13 = .int .i64 (x : Int)) ∧ Hid (b2 = true → v14 = .pointer (some ⟨Bx, 1, none⟩)) ∧ Hid (b3 = true → v15 = .int .i64 (y : Int)) ∧ Hid (b4 = true → v16 = .func (.func 103) #[] #[.pointer (some ⟨lb, 0, none⟩)]) ∧ Hid (b5 = true → v17 = .slice (some ⟨b, off, none⟩) gs.length cap) ∧ Hid (b6 = true → v18 = .agg #[.int .i64 (x : Int), .int .i64 (y : Int)]) ∧ Hid (b7 = true → v19 = .pointer (some ⟨b2', o2 + x, none⟩)) ∧ Hid (b8 = true → v20 = .pointer (some ⟨b2', o2 + x, none⟩)) ∧ Hid (b9 = true → v21 = .int .i64 z) ∧ Hid (b10 = true → v22 = .bool bt) ∧ Hid (b11 = true → v23 = .tuple #[]) ∧ Hid ((b1 = false → b11 = false) ∧ (b3 = false → b11 = false) ∧ (b10 = false → b11 = false)) ∧ Hid (b1 = true → b0 = true) ∧ Hid (b3 = true → b2 = true) ∧ Hid (b10 = true → b4 = true) ∧ Hid (b7 = true → b5 = true) ∧ Hid (b7 = true → b6 = true) ∧ Hid (b8 = true → b7 = true) ∧ Hid (b9 = true → b8 = true) ∧ Hid (b10 = true → b9 = true)) ?_ ?_ ?_
    · intro A0
      refine ⟨false, false, false, false, false, false, false, false, false, false, false, false, A0.tmps.getD 12 undef, A0.tmps.getD 13 undef, A0.tmps.getD 14 undef, A0.tmps.getD 15 undef, A0.tmps.getD 16 undef, A0.tmps.getD 17 undef, A0.tmps.getD 18 undef, A0.tmps.getD 19 undef, A0.tmps.getD 20 undef, A0.tmps.getD 21 undef, A0.tmps.getD 22 undef, A0.tmps.getD 23 undef, rfl, (by simp only [put_self]), ⟨_, (Below.refl _ _).drew, (by simp)⟩, Lib.hid (fun hf => by cases hf), Lib.hid (fun hf => by cases hf), Lib.hid (fun hf => by cases hf), Lib.hid (fun hf => by cases hf), Lib.hid (fun hf => by cases hf), Lib.hid (fun hf => by cases hf), Lib.hid (fun hf => by cases hf), Lib.hid (fun hf => by cases hf), Lib.hid (fun hf => by cases hf), Lib.hid (fun hf => by cases hf), Lib.hid (fun hf => by cases hf), Lib.hid (fun hf => by cases hf), Lib.hid ⟨fun _ => rfl, fun _ => rfl, fun _ => rfl⟩, Lib.hid (fun hf => by cases hf), Lib.hid (fun hf => by cases hf), Lib.hid (fun hf => by cases hf), Lib.hid (fun hf => by cases hf), Lib.hid (fun hf => by cases hf), Lib.hid (fun hf => by cases hf), Lib.hid (fun hf => by cases hf), Lib.hid (fun hf => by cases hf)⟩
    · intro L A W hI i hi o ho K' hK
      have hlt := (ready_left hi).1
      have hun := (ready_left hi).2
      have haf := ready_after hi ho
      clear hi
      obtain ⟨b0, b1, b2, b3, b4, b5, b6, b7, b8, b9, b10, b11, v12, v13, v14, v15, v16, v17, v18, v19, v20, v21, v22, v23, rfl, rfl, hB, h0, h1, h2, h3, h4, h5, h6, h7, h8, h9, h10, h11, p, u1_0, u3_2, u10_4, u7_5, u7_6, u8_7, u9_8, u10_9⟩ := hI
      have hc : i = 0 ∨ i = 1 ∨ i = 2 ∨ i = 3 ∨ i = 4 ∨ i = 5 ∨ i = 6 ∨ i = 7 ∨ i = 8 ∨ i = 9 ∨ i = 10 ∨ i = 11 := by
        simp at hlt
        omega
      rcases hc with rfl | rfl | rfl | rfl | rfl | rfl | rfl | rfl | rfl | rfl | rfl | rfl
      all_goals (obtain rfl := Option.some.inj ho; clear ho; simp [Region.binds] at haf hun; (try simp only [List.getElem_toArray, List.getElem_cons_zero, List.getElem_cons_succ]); simp only [Act.put, List.setIfInBounds_toArray, List.set_cons_zero, List.set_cons_succ])
      · -- operation 0
        replace hK := Lib.hid hK
        have hmid0 : b1 = false := by cases hb : b1 with | false => rfl | true => exact absurd (show true = false from (u1_0.out hb).symm.trans hun) (by decide)
        have hlast : b11 = false := p.out.1 hmid0
        clear hmid0
        subst hlast
        obtain ⟨Wp, hB, hWp⟩ := hB
        have hWq : W = Wp := by simpa using hWp
        clear hWp
        subst hWq
        have q0 := (HX.out W hB).1
        have q1 := (HX.out W hB).2
        have q2 := (HF.out W hB).1
        have q3 := (HF.out W hB).2
        have q4 := HZ.out W hB
        subst hun
        go_simp
        exact hK.out _ _ ⟨true, b1, b2, b3, b4, b5, b6, b7, b8, b9, b10, false, .pointer (some ⟨Bx, 0, none⟩), v13, v14, v15, v16, v17, v18, v19, v20, v21, v22, v23, rfl, (by simp only [Act.put, List.setIfInBounds_toArray, List.set_cons_zero, List.set_cons_succ]), ⟨_, hB, by simp⟩, Lib.hid (fun _ => rfl), h1, h2, h3, h4, h5, h6, h7, h8, h9, h10, h11, Lib.hid ⟨(fun _ => rfl), (fun _ => rfl), (fun _ => rfl)⟩, Lib.hid (fun _ => rfl), u3_2, u10_4, u7_5, u7_6, u8_7, u9_8, u10_9⟩
      · -- operation 1
        replace hK := Lib.hid hK
        have hlast : b11 = false := p.out.1 hun
        subst hlast
        obtain ⟨Wp, hB, hWp⟩ := hB
        have hWq : W = Wp := by simpa using hWp
        clear hWp
        subst hWq
        have q0 := (HX.out W hB).1
        have q1 := (HX.out W hB).2
        have q2 := (HF.out W hB).1
        have q3 := (HF.out W hB).2
        have q4 := HZ.out W hB
        obtain rfl := h0.out (by simp only [haf])
        subst hun
        go_simp
        exact hK.out _ _ ⟨b0, true, b2, b3, b4, b5, b6, b7, b8, b9, b10, false, .pointer (some ⟨Bx, 0, none⟩), .int .i64 (x : Int), v14, v15, v16, v17, v18, v19, v20, v21, v22, v23, rfl, (by simp only [Act.put, List.setIfInBounds_toArray, List.set_cons_zero, List.set_cons_succ]), ⟨_, hB, by simp⟩, Lib.hid (fun _ => rfl), Lib.hid (fun _ => rfl), h2, h3, h4, h5, h6, h7, h8, h9, h10, h11, Lib.hid ⟨(fun hf => by cases hf), (fun _ => rfl), (fun _ => rfl)⟩, Lib.hid (fun _ => (by simp only [haf])), u3_2, u10_4, u7_5, u7_6, u8_7, u9_8, u10_9⟩
      · -- operation 2
        replace hK := Lib.hid hK
        have hmid0 : b3 = false := by cases hb : b3 with | false => rfl | true => exact absurd (show true = false from (u3_2.out hb).symm.trans hun) (by decide)
        have hlast : b11 = false := p.out.2.1 hmid0
        clear hmid0
        subst hlast
        obtain ⟨Wp, hB, hWp⟩ := hB
        have hWq : W = Wp := by simpa using hWp
        clear hWp
        subst hWq
        have q0 := (HX.out W hB).1
        have q1 := (HX.out W hB).2
        have q2 := (HF.out W hB).1
        have q3 := (HF.out W hB).2
        have q4 := HZ.out W hB
        subst hun
        go_simp
        exact hK.out _ _ ⟨b0, b1, true, b3, b4, b5, b6, b7, b8, b9, b10, false, v12, v13, .pointer (some ⟨Bx, 1, none⟩), v15, v16, v17, v18, v19, v20, v21, v22, v23, rfl, (by simp only [Act.put, List.setIfInBounds_toArray, List.set_cons_zero, List.set_cons_succ]), ⟨_, hB, by simp⟩, h0, h1, Lib.hid (fun _ => rfl), h3, h4, h5, h6, h7, h8, h9, h10, h11, Lib.hid ⟨(fun _ => rfl), (fun _ => rfl), (fun _ => rfl)⟩, u1_0, Lib.hid (fun _ => rfl), u10_4, u7_5, u7_6, u8_7, u9_8, u10_9⟩
      · -- operation 3
        replace hK := Lib.hid hK
        have hlast : b11 = false := p.out.2.1 hun
        subst hlast
        obtain ⟨Wp, hB, hWp⟩ := hB
        have hWq : W = Wp := by simpa using hWp
        clear hWp
        subst hWq
        have q0 := (HX.out W hB).1
        have q1 := (HX.out W hB).2
        have q2 := (HF.out W hB).1
        have q3 := (HF.out W hB).2
        have q4 := HZ.out W hB
        obtain rfl := h2.out (by simp only [haf])
        subst hun
        go_simp
        exact hK.out _ _ ⟨b0, b1, b2, true, b4, b5, b6, b7, b8, b9, b10, false, v12, v13, .pointer (some ⟨Bx, 1, none⟩), .int .i64 (y : Int), v16, v17, v18, v19, v20, v21, v22, v23, rfl, (by simp only [Act.put, List.setIfInBounds_toArray, List.set_cons_zero, List.set_cons_succ]), ⟨_, hB, by simp⟩, h0, h1, Lib.hid (fun _ => rfl), Lib.hid (fun _ => rfl), h4, h5, h6, h7, h8, h9, h10, h11, Lib.hid ⟨(fun _ => rfl), (fun hf => by cases hf), (fun _ => rfl)⟩, u1_0, Lib.hid (fun _ => (by simp only [haf])), u10_4, u7_5, u7_6, u8_7, u9_8, u10_9⟩
      · -- operation 4
        replace hK := Lib.hid hK
        have hmid0 : b10 = false := by cases hb : b10 with | false => rfl | true => exact absurd (show true = false from (u10_4.out hb).symm.trans hun) (by decide)
        have hlast : b11 = false := p.out.2.2 hmid0
        clear hmid0
        subst hlast
        obtain ⟨Wp, hB, hWp⟩ := hB
        have hWq : W = Wp := by simpa using hWp
        clear hWp
        subst hWq
        have q0 := (HX.out W hB).1
        have q1 := (HX.out W hB).2
        have q2 := (HF.out W hB).1
        have q3 := (HF.out W hB).2
        have q4 := HZ.out W hB
        subst hun
        go_simp
        exact hK.out _ _ ⟨b0, b1, b2, b3, true, b5, b6, b7, b8, b9, b10, false, v12, v13, v14, v15, .func (.func 103) #[] #[.pointer (some ⟨lb, 0, none⟩)], v17, v18, v19, v20, v21, v22, v23, rfl, (by simp only [Act.put, List.setIfInBounds_toArray, List.set_cons_zero, List.set_cons_succ]), ⟨_, hB, by simp⟩, h0, h1, h2, h3, Lib.hid (fun _ => rfl), h5, h6, h7, h8, h9, h10, h11, Lib.hid ⟨(fun _ => rfl), (fun _ => rfl), (fun _ => rfl)⟩, u1_0, u3_2, Lib.hid (fun _ => rfl), u7_5, u7_6, u8_7, u9_8, u10_9⟩
      · -- operation 5
        replace hK := Lib.hid hK
        have hmid0 : b7 = false := by cases hb : b7 with | false => rfl | true => exact absurd (show true = false from (u7_5.out hb).symm.trans hun) (by decide)
        have hmid1 : b8 = false := by cases hb : b8 with | false => rfl | true => exact absurd (show true = false from (u8_7.out hb).symm.trans hmid0) (by decide)
        have hmid2 : b9 = false := by cases hb : b9 with | false => rfl | true => exact absurd (show true = false from (u9_8.out hb).symm.trans hmid1) (by decide)
        have hmid3 : b10 = false := by cases hb : b10 with | false => rfl | true => exact absurd (show true = false from (u10_9.out hb).symm.trans hmid2) (by decide)
        have hlast : b11 = false := p.out.2.2 hmid3
        clear hmid0 hmid1 hmid2 hmid3
        subst hlast
        obtain ⟨Wp, hB, hWp⟩ := hB
        have hWq : W = Wp := by simpa using hWp
        clear hWp
        subst hWq
        have q0 := (HX.out W hB).1
        have q1 := (HX.out W hB).2
        have q2 := (HF.out W hB).1
        have q3 := (HF.out W hB).2
        have q4 := HZ.out W hB
        subst hun
        go_simp
        exact hK.out _ _ ⟨b0, b1, b2, b3, b4, true, b6, b7, b8, b9, b10, false, v12, v13, v14, v15, v16, .slice (some ⟨b, off, none⟩) gs.length cap, v18, v19, v20, v21, v22, v23, rfl, (by simp only [Act.put, List.setIfInBounds_toArray, List.set_cons_zero, List.set_cons_succ]), ⟨_, hB, by simp⟩, h0, h1, h2, h3, h4, Lib.hid (fun _ => rfl), h6, h7, h8, h9, h10, h11, Lib.hid ⟨(fun _ => rfl), (fun _ => rfl), (fun _ => rfl)⟩, u1_0, u3_2, u10_4, Lib.hid (fun _ => rfl), u7_6, u8_7, u9_8, u10_9⟩
      · -- operation 6
        replace hK := Lib.hid hK
        have hmid0 : b7 = false := by cases hb : b7 with | false => rfl | true => exact absurd (show true = false from (u7_6.out hb).symm.trans hun) (by decide)
        have hmid1 : b8 = false := by cases hb : b8 with | false => rfl | true => exact absurd (show true = false from (u8_7.out hb).symm.trans hmid0) (by decide)
        have hmid2 : b9 = false := by cases hb : b9 with | false => rfl | true => exact absurd (show true = false from (u9_8.out hb).symm.trans hmid1) (by decide)
        have hmid3 : b10 = false := by cases hb : b10 with | false => rfl | true => exact absurd (show true = false from (u10_9.out hb).symm.trans hmid2) (by decide)
        have hlast : b11 = false := p.out.2.2 hmid3
        clear hmid0 hmid1 hmid2 hmid3
        subst hlast
        obtain ⟨Wp, hB, hWp⟩ := hB
        have hWq : W = Wp := by simpa using hWp
        clear hWp
        subst hWq
        have q0 := (HX.out W hB).1
        have q1 := (HX.out W hB).2
        have q2 := (HF.out W hB).1
        have q3 := (HF.out W hB).2
        have q4 := HZ.out W hB
        subst hun
        go_simp
        exact hK.out _ _ ⟨b0, b1, b2, b3, b4, b5, true, b7, b8, b9, b10, false, v12, v13, v14, v15, v16, v17, .agg #[.int .i64 (x : Int), .int .i64 (y : Int)], v19, v20, v21, v22, v23, rfl, (by simp only [Act.put, List.setIfInBounds_toArray, List.set_cons_zero, List.set_cons_succ]), ⟨_, hB, by simp⟩, h0, h1, h2, h3, h4, h5, Lib.hid (fun _ => rfl), h7, h8, h9, h10, h11, Lib.hid ⟨(fun _ => rfl), (fun _ => rfl), (fun _ => rfl)⟩, u1_0, u3_2, u10_4, u7_5, Lib.hid (fun _ => rfl), u8_7, u9_8, u10_9⟩
      · -- operation 7
        replace hK := Lib.hid hK
        have hmid0 : b8 = false := by cases hb : b8 with | false => rfl | true => exact absurd (show true = false from (u8_7.out hb).symm.trans hun) (by decide)
        have hmid1 : b9 = false := by cases hb : b9 with | false => rfl | true => exact absurd (show true = false from (u9_8.out hb).symm.trans hmid0) (by decide)
        have hmid2 : b10 = false := by cases hb : b10 with | false => rfl | true => exact absurd (show true = false from (u10_9.out hb).symm.trans hmid1) (by decide)
        have hlast : b11 = false := p.out.2.2 hmid2
        clear hmid0 hmid1 hmid2
        subst hlast
        obtain ⟨Wp, hB, hWp⟩ := hB
        have hWq : W = Wp := by simpa using hWp
        clear hWp
        subst hWq
        have q0 := (HX.out W hB).1
        have q1 := (HX.out W hB).2
        have q2 := (HF.out W hB).1
        have q3 := (HF.out W hB).2
        have q4 := HZ.out W hB
        obtain rfl := h5.out (by simp only [haf])
        obtain rfl := h6.out (by simp only [haf])
        subst hun
        go_simp
        refine ⟨trivial, ?_⟩
        refine (CallsIn.inRound l (callsIn_wide.2 (CA.out W hB))).mono ?_
        rintro e W' ⟨rfl, hb⟩
        have hkept := fun kb (hk : kb < W.heap.size) => hb.block kb hk
        exact hK.out _ _ ⟨b0, b1, b2, b3, b4, b5, b6, true, b8, b9, b10, false, v12, v13, v14, v15, v16, .slice (some ⟨b, off, none⟩) gs.length cap, .agg #[.int .i64 (x : Int), .int .i64 (y : Int)], .pointer (some ⟨b2', o2 + x, none⟩), v20, v21, v22, v23, rfl, (by simp only [Act.put, List.setIfInBounds_toArray, List.set_cons_zero, List.set_cons_succ]), ⟨_, hB.trans (hb.mono hB.size), by simp⟩, h0, h1, h2, h3, h4, Lib.hid (fun _ => rfl), Lib.hid (fun _ => rfl), Lib.hid (fun _ => rfl), h8, h9, h10, h11, Lib.hid ⟨(fun _ => rfl), (fun _ => rfl), (fun _ => rfl)⟩, u1_0, u3_2, u10_4, Lib.hid (fun _ => (by simp only [haf])), Lib.hid (fun _ => (by simp only [haf])), Lib.hid (fun _ => rfl), u9_8, u10_9⟩
      · -- operation 8
        replace hK := Lib.hid hK
        have hmid0 : b9 = false := by cases hb : b9 with | false => rfl | true => exact absurd (show true = false from (u9_8.out hb).symm.trans hun) (by decide)
        have hmid1 : b10 = false := by cases hb : b10 with | false => rfl | true => exact absurd (show true = false from (u10_9.out hb).symm.trans hmid0) (by decide)
        have hlast : b11 = false := p.out.2.2 hmid1
        clear hmid0 hmid1
        subst hlast
        obtain ⟨Wp, hB, hWp⟩ := hB
        have hWq : W = Wp := by simpa using hWp
        clear hWp
        subst hWq
        have q0 := (HX.out W hB).1
        have q1 := (HX.out W hB).2
        have q2 := (HF.out W hB).1
        have q3 := (HF.out W hB).2
        have q4 := HZ.out W hB
        obtain rfl := h7.out (by simp only [haf])
        subst hun
        go_simp
        exact hK.out _ _ ⟨b0, b1, b2, b3, b4, b5, b6, b7, true, b9, b10, false, v12, v13, v14, v15, v16, v17, v18, .pointer (some ⟨b2', o2 + x, none⟩), .pointer (some ⟨b2', o2 + x, none⟩), v21, v22, v23, rfl, (by simp only [Act.put, List.setIfInBounds_toArray, List.set_cons_zero, List.set_cons_succ]), ⟨_, hB, by simp⟩, h0, h1, h2, h3, h4, h5, h6, Lib.hid (fun _ => rfl), Lib.hid (fun _ => rfl), h9, h10, h11, Lib.hid ⟨(fun _ => rfl), (fun _ => rfl), (fun _ => rfl)⟩, u1_0, u3_2, u10_4, u7_5, u7_6, Lib.hid (fun _ => (by simp only [haf])), Lib.hid (fun _ => rfl), u10_9⟩
      · -- operation 9
        replace hK := Lib.hid hK
        have hmid0 : b10 = false := by cases hb : b10 with | false => rfl | true => exact absurd (show true = false from (u10_9.out hb).symm.trans hun) (by decide)
        have hlast : b11 = false := p.out.2.2 hmid0
        clear hmid0
        subst hlast
        obtain ⟨Wp, hB, hWp⟩ := hB
        have hWq : W = Wp := by simpa using hWp
        clear hWp
        subst hWq
        have q0 := (HX.out W hB).1
        have q1 := (HX.out W hB).2
        have q2 := (HF.out W hB).1
        have q3 := (HF.out W hB).2
        have q4 := HZ.out W hB
        obtain rfl := h8.out (by simp only [haf])
        subst hun
        go_simp
        exact hK.out _ _ ⟨b0, b1, b2, b3, b4, b5, b6, b7, b8, true, b10, false, v12, v13, v14, v15, v16, v17, v18, v19, .pointer (some ⟨b2', o2 + x, none⟩), .int .i64 z, v22, v23, rfl, (by simp only [Act.put, List.setIfInBounds_toArray, List.set_cons_zero, List.set_cons_succ]), ⟨_, hB, by simp⟩, h0, h1, h2, h3, h4, h5, h6, h7, Lib.hid (fun _ => rfl), Lib.hid (fun _ => rfl), h10, h11, Lib.hid ⟨(fun _ => rfl), (fun _ => rfl), (fun _ => rfl)⟩, u1_0, u3_2, u10_4, u7_5, u7_6, u8_7, Lib.hid (fun _ => (by simp only [haf])), Lib.hid (fun _ => rfl)⟩
      · -- operation 10
        replace hK := Lib.hid hK
        have hlast : b11 = false := p.out.2.2 hun
        subst hlast
        obtain ⟨Wp, hB, hWp⟩ := hB
        have hWq : W = Wp := by simpa using hWp
        clear hWp
        subst hWq
        have q0 := (HX.out W hB).1
        have q1 := (HX.out W hB).2
        have q2 := (HF.out W hB).1
        have q3 := (HF.out W hB).2
        have q4 := HZ.out W hB
        obtain rfl := h4.out (by simp only [haf])
        obtain rfl := h9.out (by simp only [haf])
        subst hun
        go_simp
        refine ⟨trivial, ?_⟩
        refine (CallsIn.inRound l (callsIn_wide.2 (CRu.out W hB))).mono ?_
        rintro e W' ⟨rfl, hb⟩
        have hkept := fun kb (hk : kb < W.heap.size) => hb.block kb hk
        exact hK.out _ _ ⟨b0, b1, b2, b3, b4, b5, b6, b7, b8, b9, true, false, v12, v13, v14, v15, .func (.func 103) #[] #[.pointer (some ⟨lb, 0, none⟩)], v17, v18, v19, v20, .int .i64 z, .bool bt, v23, rfl, (by simp only [Act.put, List.setIfInBounds_toArray, List.set_cons_zero, List.set_cons_succ]), ⟨_, hB.trans (hb.mono hB.size), by simp⟩, h0, h1, h2, h3, Lib.hid (fun _ => rfl), h5, h6, h7, h8, Lib.hid (fun _ => rfl), Lib.hid (fun _ => rfl), h11, Lib.hid ⟨(fun _ => rfl), (fun _ => rfl), (fun hf => by cases hf)⟩, u1_0, u3_2, Lib.hid (fun _ => (by simp only [haf])), u7_5, u7_6, u8_7, u9_8, Lib.hid (fun _ => (by simp only [haf]))⟩
      · -- operation 11
        replace hK := Lib.hid hK
        subst hun
        obtain ⟨Wp, hB, hWp⟩ := hB
        have hWq : W = Wp := by simpa using hWp
        clear hWp
        subst hWq
        have q0 := (HX.out W hB).1
        have q1 := (HX.out W hB).2
        have q2 := (HF.out W hB).1
        have q3 := (HF.out W hB).2
        have q4 := HZ.out W hB
        obtain rfl := h1.out (by simp only [haf])
        obtain rfl := h3.out (by simp only [haf])
        obtain rfl := h10.out (by simp only [haf])
        go_simp
        refine ⟨trivial, ?_⟩
        refine (CallsIn.inRound l (callsIn_wide.2 (CSt.out W hB))).mono ?_
        rintro e W' ⟨rfl, hset⟩
        exact hK.out _ _ ⟨b0, b1, b2, b3, b4, b5, b6, b7, b8, b9, b10, true, v12, .int .i64 (x : Int), v14, .int .i64 (y : Int), v16, v17, v18, v19, v20, v21, .bool bt, .tuple #[], rfl, (by simp only [Act.put, List.setIfInBounds_toArray, List.set_cons_zero, List.set_cons_succ]), ⟨_, hB, by simpa using hset⟩, h0, Lib.hid (fun _ => rfl), h2, Lib.hid (fun _ => rfl), h4, h5, h6, h7, h8, h9, Lib.hid (fun _ => rfl), Lib.hid (fun _ => rfl), Lib.hid ⟨(fun hf => absurd (show false = true from hf.symm.trans (by simp only [haf])) (by decide)), (fun hf => absurd (show false = true from hf.symm.trans (by simp only [haf])) (by decide)), (fun hf => absurd (show false = true from hf.symm.trans (by simp only [haf])) (by decide))⟩, u1_0, u3_2, u10_4, u7_5, u7_6, u8_7, u9_8, u10_9⟩
    intro L A W hI hr
    obtain ⟨b0, b1, b2, b3, b4, b5, b6, b7, b8, b9, b10, b11, v12, v13, v14, v15, v16, v17, v18, v19, v20, v21, v22, v23, rfl, rfl, hB, h0, h1, h2, h3, h4, h5, h6, h7, h8, h9, h10, h11, p, u1_0, u3_2, u10_4, u7_5, u7_6, u8_7, u9_8, u10_9⟩ := hI
    have d0 := ready_done hr 0 _ rfl (by simp [Region.binds])
    have d2 := ready_done hr 2 _ rfl (by simp [Region.binds])
    have d4 := ready_done hr 4 _ rfl (by simp [Region.binds])
    have d5 := ready_done hr 5 _ rfl (by simp [Region.binds])
    have d6 := ready_done hr 6 _ rfl (by simp [Region.binds])
    simp at d0 d2 d4 d5 d6
    subst d0 d2 d4 d5 d6
    have d1 := ready_done hr 1 _ rfl (by simp [Region.binds])
    have d3 := ready_done hr 3 _ rfl (by simp [Region.binds])
    have d7 := ready_done hr 7 _ rfl (by simp [Region.binds])
    simp at d1 d3 d7
    subst d1 d3 d7
    have d8 := ready_done hr 8 _ rfl (by simp [Region.binds])
    simp at d8
    subst d8
    have d9 := ready_done hr 9 _ rfl (by simp [Region.binds])
    simp at d9
    subst d9
    have d10 := ready_done hr 10 _ rfl (by simp [Region.binds])
    simp at d10
    subst d10
    have d11 := ready_done hr 11 _ rfl (by simp [Region.binds])
    simp at d11
    subst d11
    obtain rfl := h0.out rfl
    obtain rfl := h1.out rfl
    obtain rfl := h2.out rfl
    obtain rfl := h3.out rfl
    obtain rfl := h4.out rfl
    obtain rfl := h5.out rfl
    obtain rfl := h6.out rfl
    obtain rfl := h7.out rfl
    obtain rfl := h8.out rfl
    obtain rfl := h9.out rfl
    obtain rfl := h10.out rfl
    obtain rfl := h11.out rfl
    obtain ⟨Wp, hB, hWp⟩ := hB
    have hSet : SetX Wp W m5 (rowF gs 0).length gs.length (dnG (thF gs lv) pre) y x bt := by simpa using hWp
    clear hWp
    simp only [Act.put, List.setIfInBounds_toArray, List.set_cons_zero, List.set_cons_succ]
    clear hr h0 h1 h2 h3 h4 h5 h6 h7 h8 h9 h10 h11 p u1_0 u3_2 u10_4 u7_5 u7_6 u8_7 u9_8 u10_9
    have KO : ∀ k, k ≠ m5 → k < WB.heap.size → W.heap[k]? = WB.heap[k]? := fun k hk hlt => (hSet.2.2.1 k hk).trans (hB.block k hlt)
    gi_wp2
    refine ⟨⟨by rw [hSet.2.2.2]; exact hB.size, fun k o hk hko _ => (KO k (by omega) (Array.getElem?_eq_some_iff.1 hko).1).trans hko⟩, ⟨KO _ (by omega) G6.out.lt, KO _ (by omega) G7.out.lt⟩, ⟨⟨⟨⟨⟨⟨(KO _ (by omega) G6.out.lt).trans G6.out, (KO _ (by omega) G7.out.lt).trans G7.out⟩, (KO _ (by omega) G0.out.lt).trans G0.out⟩, (KO _ (by omega) G1.out.lt).trans G1.out⟩, (KO _ (by omega) G2.out.lt).trans G2.out⟩, by rw [HSn.out]; exact hSet.1⟩, (GB.out.trans (hB.mono hl0)).trans (hSet.2.1.mono (by omega))⟩⟩
  case done =>
    rintro D ys W hD rfl ⟨⟨⟨⟨⟨⟨b6, b7⟩, b0⟩, b1⟩, b2⟩, b5⟩, hB⟩ hK
    have hb5 := Lib.hid b5
    have hb2 := Lib.hid b2
    have hBW := Lib.hid hB
    have HKK := Lib.hid hK
    have hIm : Hid ((Tryd.prog.info? 95).map (·.size) = some (mat (rowF gs 0).length gs.length (dnG (thF gs lv) ((gGrid (rowF gs 0).length gs.length V.w1 V.n1).list (gs.length * (rowF gs 0).length)))).size) := infoM
    obtain ⟨P2, hP2⟩ : ∃ P, mat (rowF gs 0).length gs.length (dnG (thF gs lv) ((gGrid (rowF gs 0).length gs.length V.w1 V.n1).list (gs.length * (rowF gs 0).length))) = P := ⟨_, rfl⟩
    have h5 : Hid (Blk W m5 P2 95) := by
      show Blk _ _ _ _
      rw [← hP2]
      exact hb5.out
    rw [hP2] at CPi hIm
    obtain ⟨pic, hpic⟩ : ∃ p, mkPic (rowF gs 0).length gs.length (thF gs lv) = p := ⟨_, rfl⟩
    have HPq := Lib.hid hpic
    rw [hpic] at CPi
    unfold TookPic at CPi
    clear b0 b1 b2 b5 b6 b7 hb5 hP2 hpic hK hB c0 c1 c2 c5 c6 c7 hv ho
    gi_wp2_with (first | (refine wpListIn_load_row rfl 95 _ rfl m5 rfl 95 P2 (0, 0) _ h5.out Tryd.underlying95 rfl hIm.out ?_) | (refine ⟨trivial, ?_⟩; gi_at_call 140; refine (callsIn_wide.2 (CPi.out _)).mono ?_; rintro e w7 ⟨g7, cap7, rfl, hown7, hb7⟩; refine Hid.out ?_))
    have e2 := (hb2.out).below hb7
    have hfr : w7.frozen? ⟨w.heap.size + 1 + 1, 0, none⟩ = false := free_of_one e2
    have hc2 : w7.cell? ⟨w.heap.size + 1 + 1, 0, none⟩ = some (.slice none 0 0) := cell_of_one e2
    have hK7 : w7.heap[D]? = some (.deferred (some [])) := (hb7.block _ (Array.getElem?_eq_some_iff.1 HKK.out).1).trans HKK.out
    have HK7 := Lib.hid hK7
    have O7 := Lib.hid (own_set (u := .slice (some ⟨g7, 0, none⟩) pic.length cap7) hown7 e2 (by decide))
    have P7 := Lib.hid (one_setCell (u := .slice (some ⟨g7, 0, none⟩) pic.length cap7) e2)
    have B7 := Lib.hid (hBW.out.trans (hb7.mono hBW.out.size))
    have hs7 := hBW.out.size
    clear hown7 hb7 hK7 e2
    refine Lib.hid ?_
    gi_wp2
    have hK' : (w7.setCell ⟨w.heap.size + 1 + 1, 0, none⟩ (.slice (some ⟨g7, 0, none⟩) pic.length cap7)).heap[D]? = some (.deferred (some [])) := (KeepsOthers.setCell w7 _ _).same D _ HK7.out rfl
    have hR : ((w7.setCell ⟨w.heap.size + 1 + 1, 0, none⟩ (.slice (some ⟨g7, 0, none⟩) pic.length cap7)).putObj D (.deferred none)).heap[w.heap.size + 1 + 1]? = some (.cells #[.slice (some ⟨g7, 0, none⟩) pic.length cap7] 33 (0, 0)) := by
      rw [World.putObj_heap_other (by omega)]
      exact P7.out
    rw [HPq.out]
    refine ⟨by simp, .inl ⟨_, _, rfl, run_takeDeferred hK', ?_⟩⟩
    refine ⟨_, results_cell1 (p := 4) (ty := 33) Tryd.results102 _ _ (w.heap.size + 1 + 1) 33 #[.slice (some ⟨g7, 0, none⟩) pic.length cap7] (0, 0) _ rfl hR Tryd.underlying33 rfl (by kernel_rfl), g7, cap7, rfl, ?_, ?_⟩
    · exact ownsRow_putObj (Joins.ownsRow_le O7.out hs7) _ hK' rfl
    · exact (B7.out.setCell (p := ⟨w.heap.size + 1 + 1, 0, none⟩) (by show w.heap.size ≤ w.heap.size + 1 + 1; omega) _).trans (belowK_b (w := w) (Nat.le_refl _) _ D _ _ (by omega) hK' rfl rfl)
  case stop =>
    rintro D c pre W _ _ h _
    exact h.elim
end Go.Proofs.YthkmfiipmhlbjaaDoor
