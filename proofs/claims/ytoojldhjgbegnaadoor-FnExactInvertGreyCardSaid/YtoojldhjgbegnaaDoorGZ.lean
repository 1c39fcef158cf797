/- Contracts of single functions, and plain lemmas, on which the exact laws of this seat rest; each holds under the conditions that it states. -/
import Derived.Test.YtoojldhjgbegnaaDoorGY
namespace Go.Proofs.YtoojldhjgbegnaaDoor
set_option linter.unusedVariables false
set_option linter.unusedSimpArgs false
open Go.RowKit Go.Shelf
attribute [local go_sem] Oper.semAt_some

set_option maxRecDepth 100000 in
set_option maxHeartbeats 4000000 in
theorem changed_any (v : Value) (gs : List (List Int)) (w : World) (V : VG 99 gs) (hv : SlG w v gs) :
    Calls Tryd.prog 32 #[v, .func (.func 33) #[] #[]] w (TookR w gs.length (rowF (ivGs gs))) := by
  refine (callsIn_wide (n := 6)).1 ?_
  have CS : Hid (∀ W, Below w.heap.size w W → Calls Tryd.prog 61 #[v] W (fun e w' => e = .returned (.agg (mcells (rowF gs 0).length gs.length (fun _ => 0))) ∧ Below W.heap.size W w')) := fun W hb => sizeG_any v gs W V (hv.below hb)
  have CBl : Hid (∀ W, Calls Tryd.prog 47 #[.agg (mcells (rowF gs 0).length gs.length (fun _ => 0))] W (TookR W gs.length (fun _ => zerosN (rowF gs 0).length))) := fun W => blankRows_any _ _ W ⟨V.w1, V.w16⟩ ⟨V.n1, V.n16⟩
  obtain ⟨M, hM⟩ : ∃ M, mcells (rowF gs 0).length gs.length (fun _ => 0) = M := ⟨_, rfl⟩
  have hsz : M.size = 18 := by rw [← hM]; rfl
  rw [hM] at CS CBl
  unfold TookR at CBl
  obtain ⟨ao, cap, rfl, ho⟩ := hv.open'
  obtain ⟨b, off, rfl, hbl, hrow⟩ := ho V.n1
  have hb3 := Joins.below_alloc2 w (.cells #[.slice (some ⟨b, off, none⟩) gs.length cap] 54) (.cells #[.func (.func 33) #[] #[]] 56)
  have q0 : Blk ((w.alloc (.cells #[.slice (some ⟨b, off, none⟩) gs.length cap] 54)).alloc (.cells #[.func (.func 33) #[] #[]] 56)) w.heap.size #[.slice (some ⟨b, off, none⟩) gs.length cap] 54 := by
    show _ = _
    rw [Below.heap_alloc _ _ _ (by first | (simp; done) | (simp; omega))]; exact heap_alloc_last w _
  have q1 : Blk ((w.alloc (.cells #[.slice (some ⟨b, off, none⟩) gs.length cap] 54)).alloc (.cells #[.func (.func 33) #[] #[]] 56)) (w.heap.size + 1) #[.func (.func 33) #[] #[]] 56 := heap_alloc2_new _ _ _
  refine callsIn_of_wp_marks Tryd.func32 rfl trivial ?_ rfl
  simp only [Tryd.ntmps32, List.size_toArray, List.length_cons, List.length_nil, Nat.reduceAdd, Nat.reduceSub, Array.replicate_succ, Array.replicate_zero, List.push_toArray, List.append_toArray, List.nil_append, List.cons_append]
  gi_wp2_with (refine ⟨trivial, ?_⟩; gi_at_call 61; refine (callsIn_wide.2 (CS.out _ hb3)).mono ?_; rintro e w1 ⟨rfl, hb1⟩; refine Hid.out ?_)
  refine Lib.hid ?_
  gi_wp2_with (refine ⟨trivial, ?_⟩; gi_at_call 47; refine (callsIn_wide.2 (CBl.out _)).mono ?_; rintro e w2 ⟨rb, cr, rfl, hor, hb2⟩; refine Hid.out ?_)
  have r0 := (q0.below hb1).below hb2
  have r1 := (q1.below hb1).below hb2
  have hbw1 : Below w.heap.size w w1 := hb3.trans (hb1.mono (by first | (simp; done) | (simp; omega)))
  have hbw2 : Below w.heap.size w w2 := hbw1.trans (hb2.mono hbw1.size)
  obtain ⟨us, hown⟩ := hor
  have hbA := Joins.below_alloc1 w2 (.cells #[.slice (some ⟨rb, 0, none⟩) gs.length cr] 54)
  have c5 : Blk (w2.alloc (.cells #[.slice (some ⟨rb, 0, none⟩) gs.length cr] 54)) w2.heap.size #[.slice (some ⟨rb, 0, none⟩) gs.length cr] 54 := heap_alloc_last w2 _
  have c5c := Lib.hid c5
  have hbw3 : Below w.heap.size w (w2.alloc (.cells #[.slice (some ⟨rb, 0, none⟩) gs.length cr] 54)) := hbw2.alloc hbw2.size _
  have HBW3 := Lib.hid hbw3
  have r0a := Lib.hid (r0.below hbA)
  have q0c := cell_of_one r0a.out
  clear q0 q1
  refine Lib.hid ?_
  gi_wp2_with (refine ⟨trivial, ?_⟩; gi_at_call 61; refine (callsIn_wide.2 (CS.out _ HBW3.out)).mono ?_; rintro e w3 ⟨rfl, hb4⟩; refine Hid.out ?_)
  refine Lib.hid ?_
  gi_wp2_with (refine ⟨trivial, ?_⟩; gi_at_call 62; refine (callsIn_wide.2 (spots_any M 0 _ hsz)).mono ?_; rintro e w4 ⟨rfl, rfl⟩; refine Hid.out ?_)
  refine Lib.hid ?_
  gi_wp2
  have hM2 : ∀ (W : World) (g : Nat), W.heap[g]? = some (.cells M 75 (0, 0)) → W.cell? ⟨g, 0, none⟩ = some (.int .i64 (rowF gs 0).length) ∧ W.cell? ⟨g, 1, none⟩ = some (.int .i64 gs.length) := fun W g h => by
    rw [← hM] at h
    exact ⟨by rw [Joins.cell_of_block h 0]; rfl, by rw [Joins.cell_of_block h 1]; rfl⟩
  obtain ⟨W0, hW0⟩ : ∃ W0, (w3.alloc (.cells M 75)).alloc (.cells #[.int .i64 0] 2) = W0 := ⟨_, rfl⟩
  have hs0 : W0.heap.size = w3.heap.size + 1 + 1 := by rw [← hW0]; simp
  have hs3 : w2.heap.size + 1 ≤ w3.heap.size := by have := hb4.size; simpa using this
  have hs12 : w1.heap.size ≤ w2.heap.size := hb2.size
  have hsB : w.heap.size + 1 < w1.heap.size := by have := hb1.size; simp at this; omega
  have c6 : Blk W0 w3.heap.size M 75 := by
    rw [← hW0]
    exact Blk.alloc (heap_alloc_last w3 _) _
  have c7 : Blk W0 (w3.heap.size + 1) #[.int .i64 0] 2 := by rw [← hW0]; exact heap_alloc2_new _ _ _
  have c0 : Blk W0 w.heap.size #[.slice (some ⟨b, off, none⟩) gs.length cap] 54 := by rw [← hW0]; exact (((r0.below hbA).below hb4).alloc _).alloc _
  have c1 : Blk W0 (w.heap.size + 1) #[.func (.func 33) #[] #[]] 56 := by rw [← hW0]; exact (((r1.below hbA).below hb4).alloc _).alloc _
  have c5' : Blk W0 w2.heap.size #[.slice (some ⟨rb, 0, none⟩) gs.length cr] 54 := by rw [← hW0]; exact ((c5.below hb4).alloc _).alloc _
  have hb20 : Below w2.heap.size w2 W0 := by
    rw [← hW0]
    exact (hbA.trans (hb4.mono hbA.size)).trans ((Joins.below_alloc2 w3 _ _).mono (by omega))
  have HB0 : Below w.heap.size w W0 := hbw2.trans (hb20.mono hbw2.size)
  have ho0 : OwnR W0 w1.heap.size w2.heap.size (.slice (some ⟨rb, 0, none⟩) gs.length cr) us gs.length (chR gs (rowF gs 0).length ([] : List { q : Int × Int // InG (rowF gs 0).length gs.length q })) :=
    (hown.keep (fun k _ h2 => hb20.block k h2)).congr (fun i hi => (chR_nil gs _ i).symm)
  rw [hW0]
  have HMm := Lib.hid hM
  clear r0 r1 hbA hb4 hbw1 hbw2 hbw3 c5 c5c HBW3 r0a q0c hown hb2 hb1 hb3 hW0 hM hb20
  obtain ⟨m6, hm6⟩ : ∃ m, w3.heap.size = m := ⟨_, rfl⟩
  obtain ⟨m5, hm5⟩ : ∃ m, w2.heap.size = m := ⟨_, rfl⟩
  obtain ⟨lo, hlo⟩ : ∃ m, w1.heap.size = m := ⟨_, rfl⟩
  rw [hm6] at hs0 hs3 c6 c7 ⊢
  rw [hm5] at hs3 hs12 c5' ho0 ⊢
  rw [hlo] at hs12 hsB ho0
  clear hm6 hm5 hlo
  have w1' := V.w1
  have n1' := V.n1
  have w16' := V.w16
  have n16' := V.n16
  refine wpIn_rangeFunc_ownH rfl (by omega) (gf := 85) (lb := #[.pointer (some ⟨m6 + 1, 0, none⟩), .pointer (some ⟨m6, 0, none⟩)]) rfl trivial (enters_of Tryd.func85 (by kernel_rfl) rfl)
    (spots_stops (gGrid (rowF gs 0).length gs.length V.w1 V.n1) M (rowF gs 0).length gs.length m6 (m6 + 1) w16' n16' (by show 0 ≤ 2; omega) (by show (rowF gs 0).length = (rowF gs 0).length + 2 * 0; omega) (by show gs.length = gs.length + 2 * 0; omega) (fun W h => hM2 W _ h) Fence.wide (6 - 1) trivial rfl (by omega) W0 c6 c7) two2_t (two2_b (by omega) (by omega)) (Below.refl _ _) (fun _ => rfl)
    (fun pre W => (((((Blk W m6 M 75 ∧ Blk W (m6 + 1) #[.int .i64 0] 2) ∧ Blk W w.heap.size #[.slice (some ⟨b, off, none⟩) gs.length cap] 54) ∧ Blk W (w.heap.size + 1) #[.func (.func 33) #[] #[]] 56) ∧ Blk W m5 #[.slice (some ⟨rb, 0, none⟩) gs.length cr] 54) ∧ (OwnR W lo m5 (.slice (some ⟨rb, 0, none⟩) gs.length cr) us gs.length (chR gs (rowF gs 0).length pre) ∧ m5 ≤ W.heap.size)) ∧ Below w.heap.size w W)
    (fun _ _ _ => False)
    (OwnFrom.and (OwnFrom.and (OwnFrom.and (OwnFrom.and (OwnFrom.and (OwnFrom.and (Own.from (Blk.own _ _ _) _) (Own.from (Blk.own _ _ _) _)) (Own.from (Blk.own _ _ _) _)) (Own.from (Blk.own _ _ _) _)) (Own.from (Blk.own _ _ _) _)) (ownR_from lo m5 W0.heap.size gs.length (.slice (some ⟨rb, 0, none⟩) gs.length cr) us (fun pre => chR gs (rowF gs 0).length pre) (by omega))) (ownFrom_below (Nat.le_refl _) (by omega)))
    (fun _ _ _ _ _ hs _ _ => hs)
    ⟨⟨⟨⟨⟨⟨c6, c7⟩, c0⟩, c1⟩, c5'⟩, ho0, by omega⟩, HB0⟩
    (fun x a' W => ∃ Bx, m6 + 1 < Bx ∧ Blk W Bx #[.int .i64 x.1.1, .int .i64 x.1.2] 81 ∧ a' = { tmps := #[.slice (some ⟨b, off, none⟩) gs.length cap, .func (.func 33) #[] #[], .pointer (some ⟨w.heap.size, 0, none⟩), .pointer (some ⟨w.heap.size + 1, 0, none⟩), .slice none 0 0, .pointer (some ⟨m5, 0, none⟩), .pointer (some ⟨Bx, 0, none⟩), .slice (some ⟨b, off, none⟩) gs.length cap, .agg M, .slice (some ⟨rb, 0, none⟩) gs.length cr, .slice (some ⟨b, off, none⟩) gs.length cap, .agg M, .func (.func 85) #[] #[.pointer (some ⟨m6 + 1, 0, none⟩), .pointer (some ⟨m6, 0, none⟩)], .agg #[.int .i64 x.1.1, .int .i64 x.1.2], undef, undef, undef, undef, undef, undef, undef, undef, undef, undef, undef, undef], defers := [] })
    (fun x a' s X Y row hs hg hrow => by
      obtain ⟨Bx, hBx, h2, he⟩ := hs
      exact ⟨Bx, hBx, Blk.own (β := Unit) _ _ _ () X Y row h2 hg (fun r e => (hrow r e).2), he⟩)
    ?assign ?body ?done ?stop
  case assign =>
    rintro l pre x W K ⟨⟨⟨⟨⟨⟨b6, b7⟩, b0⟩, b1⟩, b5⟩, bO, bh⟩, hB⟩ hK
    have hs := hB.size
    have hlt := b7.lt
    simp only [encP]
    gi_wp2
    exact hK _ _ ((KeepsOthers.alloc _ _).from _) (two2_below b6.lt b7.lt (Joins.below_alloc1 _ _)) ⟨⟨⟨⟨⟨⟨b6.alloc _, b7.alloc _⟩, b0.alloc _⟩, b1.alloc _⟩, b5.alloc _⟩, bO.keep (fun k _ h2 => Below.heap_alloc _ _ _ (by omega)), by simp; omega⟩, hB.alloc hs _⟩ ⟨W.heap.size, hlt, heap_alloc_last W _, rfl⟩
  case body =>
    rintro l pre xe a' WB hl' _ ⟨⟨⟨⟨⟨⟨b6, b7⟩, b0⟩, b1⟩, b5⟩, bO, bh⟩, hB⟩ ⟨Bx, hBx, h2, rfl⟩ hlt
    have hin := xe.2
    unfold InG at hin
    obtain ⟨x, hxn⟩ : ∃ k : Nat, xe.1.1 = k := ⟨xe.1.1.toNat, by omega⟩
    obtain ⟨y, hyn⟩ : ∃ k : Nat, xe.1.2 = k := ⟨xe.1.2.toNat, by omega⟩
    have hx : x < (rowF gs 0).length := by omega
    have hy : y < gs.length := by omega
    obtain ⟨ay, cy, h1, _, h3⟩ := hrow y hy
    have hlen := V.len y hy
    obtain ⟨b2', o2, rfl, _, hcs⟩ := h3 (by omega)
    have hzc := hcs x (by omega)
    rw [hlen] at h1
    have hset := chR_set gs (rowF gs 0).length pre xe x y hxn hyn hx
    have hoth := fun y' h => chR_other gs (rowF gs 0).length pre xe y y' hyn h
    have hz99 := V.num y hy x hx
    obtain ⟨z, hz⟩ : ∃ z, (rowF gs y).getD x 0 = z := ⟨_, rfl⟩
    rw [hz] at hzc hset hz99
    rw [hxn, hyn] at h2 ⊢
    have hey := bO.each y hy
    obtain ⟨ru, cu, hus⟩ : ∃ g c, us y = .slice (some ⟨g, 0, none⟩) (rowF gs 0).length c := by
      have hf := World.ownsRow.lt (h := hey)
      rcases Joins.ownsRow_forms (show WB.ownsRow lo 2 1 (us y) (chR gs (rowF gs 0).length pre y).length (numsV (chR gs (rowF gs 0).length pre y)) from hey) with ⟨e1, h0⟩ | ⟨g, c, e1⟩
      · rw [chR_len] at h0; omega
      · exact ⟨g, c, by rw [e1, chR_len]⟩
    have hrul : lo ≤ ru := (World.ownsRow.lt (h := hey) ru (by rw [hus]; rfl)).1
    have hruh : ru < m5 := bO.up y hy ru (by rw [hus]; rfl)
    have hcrow : WB.cell? ⟨rb, y, none⟩ = some (.slice (some ⟨ru, 0, none⟩) (rowF gs 0).length cu) := by
      have := World.ownsRow.cellAt bO.row y (by omega)
      rw [this]
      simp [hy, hus]
    have heyR : ∀ W, Below WB.heap.size WB W → W.ownsRow lo 2 1 (.slice (some ⟨ru, 0, none⟩) (rowF gs 0).length cu) (rowF gs 0).length (numsV (chR gs (rowF gs 0).length pre y)) := fun W hb => by
      have h := hey.below hb
      unfold OwnN at h
      rw [hus, chR_len] at h
      exact h
    have HEy := Lib.hid heyR
    have HX : Hid (∀ W, Below WB.heap.size WB W → W.cell? ⟨Bx, 0, none⟩ = some (.int .i64 (x : Int)) ∧ W.cell? ⟨Bx, 1, none⟩ = some (.int .i64 (y : Int))) := fun W hb => ⟨cell_kept hb (by rw [Joins.cell_of_block h2 0]; rfl), cell_kept hb (by rw [Joins.cell_of_block h2 1]; rfl)⟩
    have HF : Hid (∀ W, Below WB.heap.size WB W → W.cell? ⟨w.heap.size, 0, none⟩ = some (.slice (some ⟨b, off, none⟩) gs.length cap) ∧ W.cell? ⟨w.heap.size + 1, 0, none⟩ = some (.func (.func 33) #[] #[])) := fun W hb => ⟨cell_kept hb (cell_of_one b0), cell_kept hb (cell_of_one b1)⟩
    have HR5 : Hid (∀ W, Below WB.heap.size WB W → W.cell? ⟨m5, 0, none⟩ = some (.slice (some ⟨rb, 0, none⟩) gs.length cr)) := fun W hb => cell_kept hb (cell_of_one b5)
    have HZ : Hid (∀ W, Below WB.heap.size WB W → W.cell? ⟨b2', o2 + x, none⟩ = some (.int .i64 z)) := fun W hb => cell_kept hb (cell_kept hB hzc)
    have HPu : Hid (∀ W, Below WB.heap.size WB W → (∃ u, W.cell? ⟨ru, x, none⟩ = some u) ∧ W.frozen? ⟨ru, x, none⟩ = false) := fun W hb => ⟨by
      have := World.ownsRow.cellAt (heyR W hb) x (by omega)
      refine ⟨((numsV (chR gs (rowF gs 0).length pre y))[x]?).getD undef, this.trans ?_⟩
      have hl : x < (numsV (chR gs (rowF gs 0).length pre y)).length := by simp [numsV, chR_len]; exact hx
      rw [List.getElem?_eq_getElem hl]
      rfl, World.ownsRow.frozenAt (heyR W hb) x⟩
    have CA : Hid (∀ W, Below WB.heap.size WB W → Calls Tryd.prog 49 #[.slice (some ⟨b, off, none⟩) gs.length cap, .agg #[.int .i64 x, .int .i64 y]] W (fun e w' => e = .returned (.pointer (some ⟨b2', o2 + x, none⟩)) ∧ Below W.heap.size W w')) := fun W hb => atG_at b off gs.length cap _ b2' o2 cy x y W hx hy (cell_kept hb (cell_kept hB h1))
    have CAr : Hid (∀ W, Below WB.heap.size WB W → Calls Tryd.prog 49 #[.slice (some ⟨rb, 0, none⟩) gs.length cr, .agg #[.int .i64 x, .int .i64 y]] W (fun e w' => e = .returned (.pointer (some ⟨ru, x, none⟩)) ∧ Below W.heap.size W w')) := fun W hb => by
      have := atG_at rb 0 gs.length cr (rowF gs 0).length ru 0 cu x y W hx hy (by rw [Nat.zero_add]; exact cell_kept hb hcrow)
      rwa [Nat.zero_add] at this
    have CRu : Hid (∀ W, Calls Tryd.prog 33 #[.int .i64 z] W (fun e w' => e = .returned (.int .i64 (99 - z)) ∧ Below W.heap.size W w')) := fun W => (ivRule_any z W hz99).mono fun e w' ⟨h1, h2⟩ => ⟨h1, by rw [← h2]; exact Below.refl _ _⟩
    have G6 := Lib.hid b6
    have G7 := Lib.hid b7
    have G0 := Lib.hid b0
    have G1 := Lib.hid b1
    have G5 := Lib.hid b5
    have GO := Lib.hid bO
    have GB := Lib.hid hB
    have HSet := Lib.hid hset
    have HOth := Lib.hid hoth
    have HUs := Lib.hid hus
    have hl0 := hB.size
    clear hset hoth hzc hcs h3 h1 hz hin b6 b7 b0 b1 b5 bO hB h2 hlen hxn hyn hv ho hrow c0 c1 c5' c6 c7 hbl HB0 ho0 hey hus hcrow heyR hz99
    apply wpIn_block
    refine wpIn_region_inv_at (by kernel_rfl) (by intro o ho; simp at ho; rcases ho with rfl | rfl | rfl | rfl | rfl | rfl | rfl | rfl | rfl | rfl | rfl | rfl <;> rfl) (fun A0 L A W => ∃ (b0 b1 b2 b3 b4 b5 b6 b7 b8 b9 b10 b11 : Bool) (v14 v15 v16 v17 v18 v19 v20 v21 v22 v23 v24 : Value), L = #[b0, b1, b2, b3, b4, b5, b6, b7, b8, b9, b10, b11] ∧ A = (((((((((((A0.put (some 14) v14).put (some 15) v15).put (some 16) v16).put (some 17) v17).put (some 18) v18).put (some 19) v19).put (some 20) v20).put (some 21) v21).put (some 22) v22).put (some 23) v23).put (some 24) v24) ∧ (∃ Wp, Below WB.heap.size WB Wp ∧ W = (if b11 = true then Wp.setCell ⟨ru, x, none⟩ (.int .i64 (99 - z)) else Wp)) ∧ Hid (b0 = true → v14 = .slice (some ⟨rb, 0, none⟩) gs.length cr) ∧ Hid (b1 = true → v15 = .agg #[.int .i64 (x : Int), .int .i64 (y : Int)]) ∧ Hid (b2 = true → v16 = .pointer (some ⟨ru, x, none⟩)) ∧ Hid (b3 = true → v17 = .func (.func 33) #[] #[]) ∧ Hid (b4 = true → v18 = .slice (some ⟨b, off, none⟩) gs.length cap) ∧ Hid (b5 = true → v19 = .agg #[.int .i64 (x : Int), .int .i64 (y : Int)]) ∧ Hid (b6 = true → v20 = .pointer (some ⟨b2', o2 + x, none⟩)) ∧ Hid (b7 = true → v21 = .pointer (some ⟨b2', o2 + x, none⟩)) ∧ Hid (b8 = true → v22 = .int .i64 z) ∧ Hid (b9 = true → v23 = .int .i64 (99 - z)) ∧ Hid (b10 = true → v24 = .pointer (some ⟨ru, x, none⟩)) ∧ Hid ((b0 = false → b11 = false) ∧ (b1 = false → b11 = false) ∧ (b2 = false → b11 = false) ∧ (b3 = false → b11 = false) ∧ (b4 = false → b11 = false) ∧ (b5 = false → b11 = false) ∧ (b6 = false → b11 = false) ∧ (b7 = false → b11 = false) ∧ (b8 = false → b11 = false) ∧ (b9 = false → b11 = false) ∧ (b10 = false → b11 = false))) ?_ ?_ ?_
    · intro A0
      refine ⟨false, false, false, false, false, false, false, false, false, false, false, false, A0.tmps.getD 14 undef, A0.tmps.getD 15 undef, A0.tmps.getD 16 undef, A0.tmps.getD 17 undef, A0.tmps.getD 18 undef, A0.tmps.getD 19 undef, A0.tmps.getD 20 undef, A0.tmps.getD 21 undef, A0.tmps.getD 22 undef, A0.tmps.getD 23 undef, A0.tmps.getD 24 undef, rfl, (by simp only [put_self]), ⟨_, (Below.refl _ _).drew, rfl⟩, Lib.hid (fun hf => by cases hf), Lib.hid (fun hf => by cases hf), Lib.hid (fun hf => by cases hf), Lib.hid (fun hf => by cases hf), Lib.hid (fun hf => by cases hf), Lib.hid (fun hf => by cases hf), Lib.hid (fun hf => by cases hf), Lib.hid (fun hf => by cases hf), Lib.hid (fun hf => by cases hf), Lib.hid (fun hf => by cases hf), Lib.hid (fun hf => by cases hf), Lib.hid ⟨fun _ => rfl, fun _ => rfl, fun _ => rfl, fun _ => rfl, fun _ => rfl, fun _ => rfl, fun _ => rfl, fun _ => rfl, fun _ => rfl, fun _ => rfl, fun _ => rfl⟩⟩
    · intro L A W hI i hi o ho K' hK
      have hlt := (ready_left hi).1
      have hun := (ready_left hi).2
      have haf := ready_after hi ho
      clear hi
      obtain ⟨b0, b1, b2, b3, b4, b5, b6, b7, b8, b9, b10, b11, v14, v15, v16, v17, v18, v19, v20, v21, v22, v23, v24, rfl, rfl, hB, h0, h1, h2, h3, h4, h5, h6, h7, h8, h9, h10, p⟩ := hI
      have hc : i = 0 ∨ i = 1 ∨ i = 2 ∨ i = 3 ∨ i = 4 ∨ i = 5 ∨ i = 6 ∨ i = 7 ∨ i = 8 ∨ i = 9 ∨ i = 10 ∨ i = 11 := by
        simp at hlt
        omega
      rcases hc with rfl | rfl | rfl | rfl | rfl | rfl | rfl | rfl | rfl | rfl | rfl | rfl
      all_goals (obtain rfl := Option.some.inj ho; clear ho; simp [Region.binds] at haf hun; (try simp only [List.getElem_toArray, List.getElem_cons_zero, List.getElem_cons_succ]); simp only [Act.put, List.setIfInBounds_toArray, List.set_cons_zero, List.set_cons_succ])
      · -- operation 0
        replace hK := Lib.hid hK
        have hlast : b11 = false := p.out.1 hun
        subst hlast
        obtain ⟨Wp, hB, hWp⟩ := hB
        have hWq : W = Wp := by simpa using hWp
        clear hWp
        subst hWq
        have q0 := (HX.out W hB).1
        have q1 := (HX.out W hB).2
        have q2 := (HF.out W hB).1
        have q3 := (HF.out W hB).2
        have q5 := HR5.out W hB
        have q4 := HZ.out W hB
        obtain ⟨u6, q6⟩ := (HPu.out W hB).1
        have q7 := (HPu.out W hB).2
        subst hun
        go_simp
        exact hK.out _ _ ⟨true, b1, b2, b3, b4, b5, b6, b7, b8, b9, b10, false, .slice (some ⟨rb, 0, none⟩) gs.length cr, v15, v16, v17, v18, v19, v20, v21, v22, v23, v24, rfl, (by simp only [Act.put, List.setIfInBounds_toArray, List.set_cons_zero, List.set_cons_succ]), ⟨_, hB, rfl⟩, Lib.hid (fun _ => rfl), h1, h2, h3, h4, h5, h6, h7, h8, h9, h10, Lib.hid ⟨(fun hf => by cases hf), (fun _ => rfl), (fun _ => rfl), (fun _ => rfl), (fun _ => rfl), (fun _ => rfl), (fun _ => rfl), (fun _ => rfl), (fun _ => rfl), (fun _ => rfl), (fun _ => rfl)⟩⟩
      · -- operation 1
        replace hK := Lib.hid hK
        have hlast : b11 = false := p.out.2.1 hun
        subst hlast
        obtain ⟨Wp, hB, hWp⟩ := hB
        have hWq : W = Wp := by simpa using hWp
        clear hWp
        subst hWq
        have q0 := (HX.out W hB).1
        have q1 := (HX.out W hB).2
        have q2 := (HF.out W hB).1
        have q3 := (HF.out W hB).2
        have q5 := HR5.out W hB
        have q4 := HZ.out W hB
        obtain ⟨u6, q6⟩ := (HPu.out W hB).1
        have q7 := (HPu.out W hB).2
        subst hun
        go_simp
        exact hK.out _ _ ⟨b0, true, b2, b3, b4, b5, b6, b7, b8, b9, b10, false, v14, .agg #[.int .i64 (x : Int), .int .i64 (y : Int)], v16, v17, v18, v19, v20, v21, v22, v23, v24, rfl, (by simp only [Act.put, List.setIfInBounds_toArray, List.set_cons_zero, List.set_cons_succ]), ⟨_, hB, rfl⟩, h0, Lib.hid (fun _ => rfl), h2, h3, h4, h5, h6, h7, h8, h9, h10, Lib.hid ⟨(fun _ => rfl), (fun hf => by cases hf), (fun _ => rfl), (fun _ => rfl), (fun _ => rfl), (fun _ => rfl), (fun _ => rfl), (fun _ => rfl), (fun _ => rfl), (fun _ => rfl), (fun _ => rfl)⟩⟩
      · -- operation 2
        replace hK := Lib.hid hK
        have hlast : b11 = false := p.out.2.2.1 hun
        subst hlast
        obtain ⟨Wp, hB, hWp⟩ := hB
        have hWq : W = Wp := by simpa using hWp
        clear hWp
        subst hWq
        have q0 := (HX.out W hB).1
        have q1 := (HX.out W hB).2
        have q2 := (HF.out W hB).1
        have q3 := (HF.out W hB).2
        have q5 := HR5.out W hB
        have q4 := HZ.out W hB
        obtain ⟨u6, q6⟩ := (HPu.out W hB).1
        have q7 := (HPu.out W hB).2
        obtain rfl := h0.out (by simp only [haf])
        obtain rfl := h1.out (by simp only [haf])
        subst hun
        go_simp
        refine ⟨trivial, ?_⟩
        refine (CallsIn.inRound l (callsIn_wide.2 (CAr.out W hB))).mono ?_
        rintro e W' ⟨rfl, hb⟩
        have hkept := fun kb (hk : kb < W.heap.size) => hb.block kb hk
        exact hK.out _ _ ⟨b0, b1, true, b3, b4, b5, b6, b7, b8, b9, b10, false, .slice (some ⟨rb, 0, none⟩) gs.length cr, .agg #[.int .i64 (x : Int), .int .i64 (y : Int)], .pointer (some ⟨ru, x, none⟩), v17, v18, v19, v20, v21, v22, v23, v24, rfl, (by simp only [Act.put, List.setIfInBounds_toArray, List.set_cons_zero, List.set_cons_succ]), ⟨_, hB.trans (hb.mono hB.size), rfl⟩, Lib.hid (fun _ => rfl), Lib.hid (fun _ => rfl), Lib.hid (fun _ => rfl), h3, h4, h5, h6, h7, h8, h9, h10, Lib.hid ⟨(fun _ => rfl), (fun _ => rfl), (fun hf => by cases hf), (fun _ => rfl), (fun _ => rfl), (fun _ => rfl), (fun _ => rfl), (fun _ => rfl), (fun _ => rfl), (fun _ => rfl), (fun _ => rfl)⟩⟩
      · -- operation 3
        replace hK := Lib.hid hK
        have hlast : b11 = false := p.out.2.2.2.1 hun
        subst hlast
        obtain ⟨Wp, hB, hWp⟩ := hB
        have hWq : W = Wp := by simpa using hWp
        clear hWp
        subst hWq
        have q0 := (HX.out W hB).1
        have q1 := (HX.out W hB).2
        have q2 := (HF.out W hB).1
        have q3 := (HF.out W hB).2
        have q5 := HR5.out W hB
        have q4 := HZ.out W hB
        obtain ⟨u6, q6⟩ := (HPu.out W hB).1
        have q7 := (HPu.out W hB).2
        subst hun
        go_simp
        exact hK.out _ _ ⟨b0, b1, b2, true, b4, b5, b6, b7, b8, b9, b10, false, v14, v15, v16, .func (.func 33) #[] #[], v18, v19, v20, v21, v22, v23, v24, rfl, (by simp only [Act.put, List.setIfInBounds_toArray, List.set_cons_zero, List.set_cons_succ]), ⟨_, hB, rfl⟩, h0, h1, h2, Lib.hid (fun _ => rfl), h4, h5, h6, h7, h8, h9, h10, Lib.hid ⟨(fun _ => rfl), (fun _ => rfl), (fun _ => rfl), (fun hf => by cases hf), (fun _ => rfl), (fun _ => rfl), (fun _ => rfl), (fun _ => rfl), (fun _ => rfl), (fun _ => rfl), (fun _ => rfl)⟩⟩
      · -- operation 4
        replace hK := Lib.hid hK
        have hlast : b11 = false := p.out.2.2.2.2.1 hun
        subst hlast
        obtain ⟨Wp, hB, hWp⟩ := hB
        have hWq : W = Wp := by simpa using hWp
        clear hWp
        subst hWq
        have q0 := (HX.out W hB).1
        have q1 := (HX.out W hB).2
        have q2 := (HF.out W hB).1
        have q3 := (HF.out W hB).2
        have q5 := HR5.out W hB
        have q4 := HZ.out W hB
        obtain ⟨u6, q6⟩ := (HPu.out W hB).1
        have q7 := (HPu.out W hB).2
        subst hun
        go_simp
        exact hK.out _ _ ⟨b0, b1, b2, b3, true, b5, b6, b7, b8, b9, b10, false, v14, v15, v16, v17, .slice (some ⟨b, off, none⟩) gs.length cap, v19, v20, v21, v22, v23, v24, rfl, (by simp only [Act.put, List.setIfInBounds_toArray, List.set_cons_zero, List.set_cons_succ]), ⟨_, hB, rfl⟩, h0, h1, h2, h3, Lib.hid (fun _ => rfl), h5, h6, h7, h8, h9, h10, Lib.hid ⟨(fun _ => rfl), (fun _ => rfl), (fun _ => rfl), (fun _ => rfl), (fun hf => by cases hf), (fun _ => rfl), (fun _ => rfl), (fun _ => rfl), (fun _ => rfl), (fun _ => rfl), (fun _ => rfl)⟩⟩
      · -- operation 5
        replace hK := Lib.hid hK
        have hlast : b11 = false := p.out.2.2.2.2.2.1 hun
        subst hlast
        obtain ⟨Wp, hB, hWp⟩ := hB
        have hWq : W = Wp := by simpa using hWp
        clear hWp
        subst hWq
        have q0 := (HX.out W hB).1
        have q1 := (HX.out W hB).2
        have q2 := (HF.out W hB).1
        have q3 := (HF.out W hB).2
        have q5 := HR5.out W hB
        have q4 := HZ.out W hB
        obtain ⟨u6, q6⟩ := (HPu.out W hB).1
        have q7 := (HPu.out W hB).2
        subst hun
        go_simp
        exact hK.out _ _ ⟨b0, b1, b2, b3, b4, true, b6, b7, b8, b9, b10, false, v14, v15, v16, v17, v18, .agg #[.int .i64 (x : Int), .int .i64 (y : Int)], v20, v21, v22, v23, v24, rfl, (by simp only [Act.put, List.setIfInBounds_toArray, List.set_cons_zero, List.set_cons_succ]), ⟨_, hB, rfl⟩, h0, h1, h2, h3, h4, Lib.hid (fun _ => rfl), h6, h7, h8, h9, h10, Lib.hid ⟨(fun _ => rfl), (fun _ => rfl), (fun _ => rfl), (fun _ => rfl), (fun _ => rfl), (fun hf => by cases hf), (fun _ => rfl), (fun _ => rfl), (fun _ => rfl), (fun _ => rfl), (fun _ => rfl)⟩⟩
      · -- operation 6
        replace hK := Lib.hid hK
        have hlast : b11 = false := p.out.2.2.2.2.2.2.1 hun
        subst hlast
        obtain ⟨Wp, hB, hWp⟩ := hB
        have hWq : W = Wp := by simpa using hWp
        clear hWp
        subst hWq
        have q0 := (HX.out W hB).1
        have q1 := (HX.out W hB).2
        have q2 := (HF.out W hB).1
        have q3 := (HF.out W hB).2
        have q5 := HR5.out W hB
        have q4 := HZ.out W hB
        obtain ⟨u6, q6⟩ := (HPu.out W hB).1
        have q7 := (HPu.out W hB).2
        obtain rfl := h4.out (by simp only [haf])
        obtain rfl := h5.out (by simp only [haf])
        subst hun
        go_simp
        refine ⟨trivial, ?_⟩
        refine (CallsIn.inRound l (callsIn_wide.2 (CA.out W hB))).mono ?_
        rintro e W' ⟨rfl, hb⟩
        have hkept := fun kb (hk : kb < W.heap.size) => hb.block kb hk
        exact hK.out _ _ ⟨b0, b1, b2, b3, b4, b5, true, b7, b8, b9, b10, false, v14, v15, v16, v17, .slice (some ⟨b, off, none⟩) gs.length cap, .agg #[.int .i64 (x : Int), .int .i64 (y : Int)], .pointer (some ⟨b2', o2 + x, none⟩), v21, v22, v23, v24, rfl, (by simp only [Act.put, List.setIfInBounds_toArray, List.set_cons_zero, List.set_cons_succ]), ⟨_, hB.trans (hb.mono hB.size), rfl⟩, h0, h1, h2, h3, Lib.hid (fun _ => rfl), Lib.hid (fun _ => rfl), Lib.hid (fun _ => rfl), h7, h8, h9, h10, Lib.hid ⟨(fun _ => rfl), (fun _ => rfl), (fun _ => rfl), (fun _ => rfl), (fun _ => rfl), (fun _ => rfl), (fun hf => by cases hf), (fun _ => rfl), (fun _ => rfl), (fun _ => rfl), (fun _ => rfl)⟩⟩
      · -- operation 7
        replace hK := Lib.hid hK
        have hlast : b11 = false := p.out.2.2.2.2.2.2.2.1 hun
        subst hlast
        obtain ⟨Wp, hB, hWp⟩ := hB
        have hWq : W = Wp := by simpa using hWp
        clear hWp
        subst hWq
        have q0 := (HX.out W hB).1
        have q1 := (HX.out W hB).2
        have q2 := (HF.out W hB).1
        have q3 := (HF.out W hB).2
        have q5 := HR5.out W hB
        have q4 := HZ.out W hB
        obtain ⟨u6, q6⟩ := (HPu.out W hB).1
        have q7 := (HPu.out W hB).2
        obtain rfl := h6.out (by simp only [haf])
        subst hun
        go_simp
        exact hK.out _ _ ⟨b0, b1, b2, b3, b4, b5, b6, true, b8, b9, b10, false, v14, v15, v16, v17, v18, v19, .pointer (some ⟨b2', o2 + x, none⟩), .pointer (some ⟨b2', o2 + x, none⟩), v22, v23, v24, rfl, (by simp only [Act.put, List.setIfInBounds_toArray, List.set_cons_zero, List.set_cons_succ]), ⟨_, hB, rfl⟩, h0, h1, h2, h3, h4, h5, Lib.hid (fun _ => rfl), Lib.hid (fun _ => rfl), h8, h9, h10, Lib.hid ⟨(fun _ => rfl), (fun _ => rfl), (fun _ => rfl), (fun _ => rfl), (fun _ => rfl), (fun _ => rfl), (fun _ => rfl), (fun hf => by cases hf), (fun _ => rfl), (fun _ => rfl), (fun _ => rfl)⟩⟩
      · -- operation 8
        replace hK := Lib.hid hK
        have hlast : b11 = false := p.out.2.2.2.2.2.2.2.2.1 hun
        subst hlast
        obtain ⟨Wp, hB, hWp⟩ := hB
        have hWq : W = Wp := by simpa using hWp
        clear hWp
        subst hWq
        have q0 := (HX.out W hB).1
        have q1 := (HX.out W hB).2
        have q2 := (HF.out W hB).1
        have q3 := (HF.out W hB).2
        have q5 := HR5.out W hB
        have q4 := HZ.out W hB
        obtain ⟨u6, q6⟩ := (HPu.out W hB).1
        have q7 := (HPu.out W hB).2
        obtain rfl := h7.out (by simp only [haf])
        subst hun
        go_simp
        exact hK.out _ _ ⟨b0, b1, b2, b3, b4, b5, b6, b7, true, b9, b10, false, v14, v15, v16, v17, v18, v19, v20, .pointer (some ⟨b2', o2 + x, none⟩), .int .i64 z, v23, v24, rfl, (by simp only [Act.put, List.setIfInBounds_toArray, List.set_cons_zero, List.set_cons_succ]), ⟨_, hB, rfl⟩, h0, h1, h2, h3, h4, h5, h6, Lib.hid (fun _ => rfl), Lib.hid (fun _ => rfl), h9, h10, Lib.hid ⟨(fun _ => rfl), (fun _ => rfl), (fun _ => rfl), (fun _ => rfl), (fun _ => rfl), (fun _ => rfl), (fun _ => rfl), (fun _ => rfl), (fun hf => by cases hf), (fun _ => rfl), (fun _ => rfl)⟩⟩
      · -- operation 9
        replace hK := Lib.hid hK
        have hlast : b11 = false := p.out.2.2.2.2.2.2.2.2.2.1 hun
        subst hlast
        obtain ⟨Wp, hB, hWp⟩ := hB
        have hWq : W = Wp := by simpa using hWp
        clear hWp
        subst hWq
        have q0 := (HX.out W hB).1
        have q1 := (HX.out W hB).2
        have q2 := (HF.out W hB).1
        have q3 := (HF.out W hB).2
        have q5 := HR5.out W hB
        have q4 := HZ.out W hB
        obtain ⟨u6, q6⟩ := (HPu.out W hB).1
        have q7 := (HPu.out W hB).2
        obtain rfl := h3.out (by simp only [haf])
        obtain rfl := h8.out (by simp only [haf])
        subst hun
        go_simp
        refine ⟨trivial, ?_⟩
        refine (CallsIn.inRound l (callsIn_wide.2 (CRu.out W))).mono ?_
        rintro e W' ⟨rfl, hb⟩
        have hkept := fun kb (hk : kb < W.heap.size) => hb.block kb hk
        exact hK.out _ _ ⟨b0, b1, b2, b3, b4, b5, b6, b7, b8, true, b10, false, v14, v15, v16, .func (.func 33) #[] #[], v18, v19, v20, v21, .int .i64 z, .int .i64 (99 - z), v24, rfl, (by simp only [Act.put, List.setIfInBounds_toArray, List.set_cons_zero, List.set_cons_succ]), ⟨_, hB.trans (hb.mono hB.size), rfl⟩, h0, h1, h2, Lib.hid (fun _ => rfl), h4, h5, h6, h7, Lib.hid (fun _ => rfl), Lib.hid (fun _ => rfl), h10, Lib.hid ⟨(fun _ => rfl), (fun _ => rfl), (fun _ => rfl), (fun _ => rfl), (fun _ => rfl), (fun _ => rfl), (fun _ => rfl), (fun _ => rfl), (fun _ => rfl), (fun hf => by cases hf), (fun _ => rfl)⟩⟩
      · -- operation 10
        replace hK := Lib.hid hK
        have hlast : b11 = false := p.out.2.2.2.2.2.2.2.2.2.2 hun
        subst hlast
        obtain ⟨Wp, hB, hWp⟩ := hB
        have hWq : W = Wp := by simpa using hWp
        clear hWp
        subst hWq
        have q0 := (HX.out W hB).1
        have q1 := (HX.out W hB).2
        have q2 := (HF.out W hB).1
        have q3 := (HF.out W hB).2
        have q5 := HR5.out W hB
        have q4 := HZ.out W hB
        obtain ⟨u6, q6⟩ := (HPu.out W hB).1
        have q7 := (HPu.out W hB).2
        obtain rfl := h2.out (by simp only [haf])
        subst hun
        go_simp
        exact hK.out _ _ ⟨b0, b1, b2, b3, b4, b5, b6, b7, b8, b9, true, false, v14, v15, .pointer (some ⟨ru, x, none⟩), v17, v18, v19, v20, v21, v22, v23, .pointer (some ⟨ru, x, none⟩), rfl, (by simp only [Act.put, List.setIfInBounds_toArray, List.set_cons_zero, List.set_cons_succ]), ⟨_, hB, rfl⟩, h0, h1, Lib.hid (fun _ => rfl), h3, h4, h5, h6, h7, h8, h9, Lib.hid (fun _ => rfl), Lib.hid ⟨(fun _ => rfl), (fun _ => rfl), (fun _ => rfl), (fun _ => rfl), (fun _ => rfl), (fun _ => rfl), (fun _ => rfl), (fun _ => rfl), (fun _ => rfl), (fun _ => rfl), (fun hf => by cases hf)⟩⟩
      · -- operation 11
        replace hK := Lib.hid hK
        subst hun
        obtain ⟨Wp, hB, hWp⟩ := hB
        have hWq : W = Wp := by simpa using hWp
        clear hWp
        subst hWq
        have q0 := (HX.out W hB).1
        have q1 := (HX.out W hB).2
        have q2 := (HF.out W hB).1
        have q3 := (HF.out W hB).2
        have q5 := HR5.out W hB
        have q4 := HZ.out W hB
        obtain ⟨u6, q6⟩ := (HPu.out W hB).1
        have q7 := (HPu.out W hB).2
        obtain rfl := h9.out (by simp only [haf])
        obtain rfl := h10.out (by simp only [haf])
        go_simp
        exact hK.out _ _ ⟨b0, b1, b2, b3, b4, b5, b6, b7, b8, b9, b10, true, v14, v15, v16, v17, v18, v19, v20, v21, v22, .int .i64 (99 - z), .pointer (some ⟨ru, x, none⟩), rfl, (by simp only [Act.put, List.setIfInBounds_toArray, List.set_cons_zero, List.set_cons_succ]), ⟨_, hB, rfl⟩, h0, h1, h2, h3, h4, h5, h6, h7, h8, Lib.hid (fun _ => rfl), Lib.hid (fun _ => rfl), Lib.hid ⟨(fun hf => absurd (show false = true from hf.symm.trans (by simp only [haf])) (by decide)), (fun hf => absurd (show false = true from hf.symm.trans (by simp only [haf])) (by decide)), (fun hf => absurd (show false = true from hf.symm.trans (by simp only [haf])) (by decide)), (fun hf => absurd (show false = true from hf.symm.trans (by simp only [haf])) (by decide)), (fun hf => absurd (show false = true from hf.symm.trans (by simp only [haf])) (by decide)), (fun hf => absurd (show false = true from hf.symm.trans (by simp only [haf])) (by decide)), (fun hf => absurd (show false = true from hf.symm.trans (by simp only [haf])) (by decide)), (fun hf => absurd (show false = true from hf.symm.trans (by simp only [haf])) (by decide)), (fun hf => absurd (show false = true from hf.symm.trans (by simp only [haf])) (by decide)), (fun hf => absurd (show false = true from hf.symm.trans (by simp only [haf])) (by decide)), (fun hf => absurd (show false = true from hf.symm.trans (by simp only [haf])) (by decide))⟩⟩
    intro L A W hI hr
    obtain ⟨b0, b1, b2, b3, b4, b5, b6, b7, b8, b9, b10, b11, v14, v15, v16, v17, v18, v19, v20, v21, v22, v23, v24, rfl, rfl, hB, h0, h1, h2, h3, h4, h5, h6, h7, h8, h9, h10, p⟩ := hI
    have d0 := ready_done hr 0 _ rfl (by simp [Region.binds])
    simp at d0
    subst d0
    have d1 := ready_done hr 1 _ rfl (by simp [Region.binds])
    simp at d1
    subst d1
    have d2 := ready_done hr 2 _ rfl (by simp [Region.binds])
    simp at d2
    subst d2
    have d3 := ready_done hr 3 _ rfl (by simp [Region.binds])
    simp at d3
    subst d3
    have d4 := ready_done hr 4 _ rfl (by simp [Region.binds])
    simp at d4
    subst d4
    have d5 := ready_done hr 5 _ rfl (by simp [Region.binds])
    simp at d5
    subst d5
    have d6 := ready_done hr 6 _ rfl (by simp [Region.binds])
    simp at d6
    subst d6
    have d7 := ready_done hr 7 _ rfl (by simp [Region.binds])
    simp at d7
    subst d7
    have d8 := ready_done hr 8 _ rfl (by simp [Region.binds])
    simp at d8
    subst d8
    have d9 := ready_done hr 9 _ rfl (by simp [Region.binds])
    simp at d9
    subst d9
    have d10 := ready_done hr 10 _ rfl (by simp [Region.binds])
    simp at d10
    subst d10
    have d11 := ready_done hr 11 _ rfl (by simp [Region.binds])
    simp at d11
    subst d11
    obtain rfl := h0.out rfl
    obtain rfl := h1.out rfl
    obtain rfl := h2.out rfl
    obtain rfl := h3.out rfl
    obtain rfl := h4.out rfl
    obtain rfl := h5.out rfl
    obtain rfl := h6.out rfl
    obtain rfl := h7.out rfl
    obtain rfl := h8.out rfl
    obtain rfl := h9.out rfl
    obtain rfl := h10.out rfl
    obtain ⟨Wp, hB, hWp⟩ := hB
    have hWq : W = Wp.setCell ⟨ru, x, none⟩ (.int .i64 (99 - z)) := by simpa using hWp
    clear hWp
    subst hWq
    simp only [Act.put, List.setIfInBounds_toArray, List.set_cons_zero, List.set_cons_succ]
    clear hr h0 h1 h2 h3 h4 h5 h6 h7 h8 h9 h10 p
    have hrow9 := World.ownsRow.stored (h := HEy.out Wp hB) x (.int .i64 (99 - z))
    have KO : ∀ k, k ≠ ru → k < WB.heap.size → (Wp.setCell ⟨ru, x, none⟩ (.int .i64 (99 - z))).heap[k]? = WB.heap[k]? := fun k hk hlt => (Below.heap_setCell Wp ⟨ru, x, none⟩ _ k hk).trans (hB.block k hlt)
    have hO9 : OwnR (Wp.setCell ⟨ru, x, none⟩ (.int .i64 (99 - z))) lo m5 (.slice (some ⟨rb, 0, none⟩) gs.length cr) us gs.length (chR gs (rowF gs 0).length (pre ++ [xe])) := by
      have hk := GO.out.keep (w' := Wp) (fun k _ h2 => hB.block k (Nat.lt_of_lt_of_le h2 bh))
      refine (hk.wrote hy (g := chR gs (rowF gs 0).length (pre ++ [xe]) y) ?_ ?_).congr (fun i hi => ?_)
      · rw [HUs.out]
        have h9 := hrow9.1
        rw [HSet.out] at h9
        unfold OwnN
        rw [chR_len]
        exact h9
      · rw [HUs.out]
        exact grown_cell _ _ _
      · by_cases e : i = y
        · subst e; simp
        · rw [if_neg e]; exact (HOth.out i e).symm
    gi_wp2
    refine ⟨⟨by simp; exact hB.size, fun k o hk hko _ => (KO k (by omega) (Array.getElem?_eq_some_iff.1 hko).1).trans hko⟩, ⟨KO _ (by omega) G6.out.lt, KO _ (by omega) G7.out.lt⟩, ⟨⟨⟨⟨⟨⟨(KO _ (by omega) G6.out.lt).trans G6.out, (KO _ (by omega) G7.out.lt).trans G7.out⟩, (KO _ (by omega) G0.out.lt).trans G0.out⟩, (KO _ (by omega) G1.out.lt).trans G1.out⟩, (KO _ (by omega) G5.out.lt).trans G5.out⟩, hO9, by simp; exact Nat.le_trans bh hB.size⟩, (GB.out.trans (hB.mono hl0)).setCell (p := ⟨ru, x, none⟩) (by show w.heap.size ≤ ru; omega) _⟩⟩
  case done =>
    rintro D ys W hD rfl ⟨⟨⟨⟨⟨⟨b6, b7⟩, b0⟩, b1⟩, b5⟩, bO, bh⟩, hB⟩ hK
    have hc5 := cell_of_one b5
    have hD2 : m5 < D := by omega
    gi_wp2
    refine ⟨by simp, .inl ⟨_, _, rfl, run_takeDeferred hK, ?_⟩⟩
    have hEnd : OwnR (W.putObj D (.deferred none)) lo m5 (.slice (some ⟨rb, 0, none⟩) gs.length cr) us gs.length (rowF (ivGs gs)) := (bO.keep (fun k _ h2 => World.putObj_heap_other (by omega))).congr (fun i hi => chR_full V i hi)
    refine ⟨_, results_tmp rfl _ _ _, rb, cr, rfl, ⟨us, hEnd.mono (by omega) (by simp; omega)⟩, ?_⟩
    exact hB.trans (belowK_b (w := w) (Nat.le_refl _) _ D _ _ (by omega) hK rfl rfl)
  case stop =>
    rintro D c pre W _ _ h _
    exact h.elim
end Go.Proofs.YtoojldhjgbegnaaDoor
