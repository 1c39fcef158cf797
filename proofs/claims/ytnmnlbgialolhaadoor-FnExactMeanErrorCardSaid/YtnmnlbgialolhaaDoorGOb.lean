/- Contracts of single functions, and plain lemmas, on which the exact laws of this seat rest; each holds under the conditions that it states. -/
import Derived.Test.YtnmnlbgialolhaaDoorGOa
import Derived.Test.YtnmnlbgialolhaaDoorRJ
import Derived.Test.YtnmnlbgialolhaaDoorS5
namespace Go.Proofs.YtnmnlbgialolhaaDoor
set_option linter.unusedVariables false
set_option linter.unusedSimpArgs false
open Go.RowKit Go.Shelf
attribute [local go_sem] Oper.semAt_some

def gyG (a b : Nat) (g : Nat → Nat) (y x : Nat) : Int := gyB (blackB a b g (x : Int) (y : Int))

set_option maxRecDepth 100000 in
set_option maxHeartbeats 4000000 in
theorem greysOf_any (C : Array Value) (a b : Nat) (g : Nat → Nat) (w : World) (hC : C = mat a b g) (ha1 : 0 < a) (ha : a ≤ 16) (hb1 : 0 < b) (hb : b ≤ 16) (hg : ∀ j, g j < 4294967296) :
    Calls Tryd.prog 54 #[.agg C] w (TookR w b (rwF (gyG a b g) a)) := by
  refine (callsIn_wide (n := 6)).1 ?_
  have CB : Hid (∀ (x y : Int) W, Calls Tryd.prog 90 #[.agg C, .int .i64 x, .int .i64 y] W (SaysB (blackB a b g x y) W)) := fun x y W => black_any C a b g x y W hC ha hb hg
  have CBl : Hid (∀ W, Calls Tryd.prog 95 #[.agg C] W (TookR W b (fun _ => zerosN a))) := fun W => by
    rw [hC]
    exact blankRowsF_any a b _ W ⟨ha1, ha⟩ ⟨hb1, hb⟩
  unfold TookR at CBl
  have hsC : C.size = 18 := by rw [hC]; rfl
  have HIC : Hid ((Tryd.prog.info? 63).map (·.size) = some C.size) := by show _ = _; rw [hsC]; exact infoM
  have hmC : ∀ (W : World) (q : Nat), W.heap[q]? = some (.cells C 63 (0, 0)) → W.cell? ⟨q, 0, none⟩ = some (.int .i64 (a : Int)) ∧ W.cell? ⟨q, 1, none⟩ = some (.int .i64 (b : Int)) := fun W q h => by
    rw [hC] at h
    exact ⟨by rw [Joins.cell_of_block h 0]; rfl, by rw [Joins.cell_of_block h 1]; rfl⟩
  have HMc := Lib.hid hmC
  have d0 : Blk (w.alloc (.cells C 63)) w.heap.size C 63 := heap_alloc_last w _
  have hb3 := Joins.below_alloc1 w (.cells C 63)
  have D0 := Lib.hid d0
  clear hmC hC hg
  refine callsIn_of_wp_marks Tryd.func54 rfl trivial ?_ rfl
  simp only [Tryd.ntmps54, List.size_toArray, List.length_cons, List.length_nil, Nat.reduceAdd, Nat.reduceSub, Array.replicate_succ, Array.replicate_zero, List.push_toArray, List.append_toArray, List.nil_append, List.cons_append]
  gi_wp2_with (first | (refine wpListIn_load_row rfl 63 _ rfl w.heap.size rfl 63 C (0, 0) _ D0.out Tryd.underlying63 rfl HIC.out ?_) | (refine ⟨trivial, ?_⟩; gi_at_call 95; refine (callsIn_wide.2 (CBl.out _)).mono ?_; rintro e w2 ⟨rb, cr, rfl, hor, hb2⟩; refine Hid.out ?_))
  have e0 := d0.below hb2
  have hbw2 : Below w.heap.size w w2 := hb3.trans (hb2.mono (by simp))
  obtain ⟨us, hown⟩ := hor
  have hbA := Joins.below_alloc1 w2 (.cells #[.slice (some ⟨rb, 0, none⟩) b cr] 70)
  have c5 : Blk (w2.alloc (.cells #[.slice (some ⟨rb, 0, none⟩) b cr] 70)) w2.heap.size #[.slice (some ⟨rb, 0, none⟩) b cr] 70 := heap_alloc_last w2 _
  have f0 := e0.below hbA
  have F0 := Lib.hid f0
  clear D0
  refine Lib.hid ?_
  gi_wp2_with (first | (refine wpListIn_load_row rfl 63 _ rfl w.heap.size rfl 63 C (0, 0) _ F0.out Tryd.underlying63 rfl HIC.out ?_) | (refine ⟨trivial, ?_⟩; gi_at_call 89; refine (callsIn_wide.2 (spots_any C 0 _ hsC)).mono ?_; rintro e w3 ⟨rfl, rfl⟩; refine Hid.out ?_))
  refine Lib.hid ?_
  gi_wp2
  obtain ⟨W0, hW0⟩ : ∃ W0, ((w2.alloc (.cells #[.slice (some ⟨rb, 0, none⟩) b cr] 70)).alloc (.cells C 63)).alloc (.cells #[.int .i64 0] 2) = W0 := ⟨_, rfl⟩
  have hs0 : W0.heap.size = w2.heap.size + 1 + 1 + 1 := by rw [← hW0]; simp
  have hs12 : w.heap.size + 1 ≤ w2.heap.size := by have := hb2.size; simpa using this
  have c0 : Blk W0 w.heap.size C 63 := by rw [← hW0]; exact (f0.alloc _).alloc _
  have c5' : Blk W0 w2.heap.size #[.slice (some ⟨rb, 0, none⟩) b cr] 70 := by rw [← hW0]; exact (c5.alloc _).alloc _
  have c6 : Blk W0 (w2.heap.size + 1) C 63 := by
    rw [← hW0]
    exact Blk.alloc (heap_alloc2_new _ _ _) _
  have c7 : Blk W0 (w2.heap.size + 1 + 1) #[.int .i64 0] 2 := by
    rw [← hW0]
    have := heap_alloc_last ((w2.alloc (.cells #[.slice (some ⟨rb, 0, none⟩) b cr] 70)).alloc (.cells C 63)) (.cells #[.int .i64 0] 2)
    simp only [World.size_alloc] at this
    exact this
  have hb20 : Below w2.heap.size w2 W0 := by
    rw [← hW0]
    exact Joins.below_alloc3 _ _ _ _
  have HB0 : Below w.heap.size w W0 := hbw2.trans (hb20.mono hbw2.size)
  have hown1 : OwnR w2 (w.heap.size + 1) w2.heap.size (.slice (some ⟨rb, 0, none⟩) b cr) us b (fun _ => zerosN a) := by simpa using hown
  have ho0 : OwnR W0 (w.heap.size + 1) w2.heap.size (.slice (some ⟨rb, 0, none⟩) b cr) us b (chF (gyG a b g) a ([] : List { q : Int × Int // InG a b q })) :=
    (hown1.keep (fun k _ h2 => hb20.block k h2)).congr (fun i hi => (chF_nil _ a i).symm)
  rw [hW0]
  clear hbA c5 f0 F0 d0 e0 hown hown1 hb2 hb3 hW0 hb20 hbw2
  obtain ⟨m5, hm5⟩ : ∃ m, w2.heap.size = m := ⟨_, rfl⟩
  rw [hm5] at hs0 hs12 c5' c6 c7 ho0 ⊢
  clear hm5
  refine wpIn_rangeFunc_ownH rfl (by omega) (gf := 114) (lb := #[.pointer (some ⟨m5 + 1 + 1, 0, none⟩), .pointer (some ⟨m5 + 1, 0, none⟩)]) rfl trivial (enters_of Tryd.func114 (by kernel_rfl) rfl)
    (spots_stops (gGrid a b ha1 hb1) C a b (m5 + 1) (m5 + 1 + 1) ha hb (by show 0 ≤ 2; omega) (by show a = a + 2 * 0; omega) (by show b = b + 2 * 0; omega) (fun W h => HMc.out W _ h) Fence.wide (6 - 1) trivial rfl (by omega) W0 c6 c7) two2_t (two2_b (by omega) (by omega)) (Below.refl _ _) (fun _ => rfl)
    (fun pre W => ((((Blk W (m5 + 1) C 63 ∧ Blk W (m5 + 1 + 1) #[.int .i64 0] 2) ∧ Blk W w.heap.size C 63) ∧ Blk W m5 #[.slice (some ⟨rb, 0, none⟩) b cr] 70) ∧ (OwnR W (w.heap.size + 1) m5 (.slice (some ⟨rb, 0, none⟩) b cr) us b (chF (gyG a b g) a pre) ∧ m5 ≤ W.heap.size)) ∧ Below w.heap.size w W)
    (fun _ _ _ => False)
    (OwnFrom.and (OwnFrom.and (OwnFrom.and (OwnFrom.and (OwnFrom.and (Own.from (Blk.own _ _ _) _) (Own.from (Blk.own _ _ _) _)) (Own.from (Blk.own _ _ _) _)) (Own.from (Blk.own _ _ _) _)) (ownRF_from (w.heap.size + 1) m5 W0.heap.size b (.slice (some ⟨rb, 0, none⟩) b cr) us (fun pre => chF (gyG a b g) a pre) (by omega))) (ownFrom_below (Nat.le_refl _) (by omega)))
    (fun _ _ _ _ _ hs _ _ => hs)
    ⟨⟨⟨⟨⟨c6, c7⟩, c0⟩, c5'⟩, ho0, by omega⟩, HB0⟩
    (fun x a' W => ∃ Bx, m5 + 1 + 1 < Bx ∧ Blk W Bx #[.int .i64 x.1.1, .int .i64 x.1.2] 93 ∧ a' = { tmps := #[.agg C, .pointer (some ⟨w.heap.size, 0, none⟩), .slice none 0 0, .pointer (some ⟨m5, 0, none⟩), .pointer (some ⟨Bx, 0, none⟩), .agg C, .slice (some ⟨rb, 0, none⟩) b cr, .agg C, .func (.func 114) #[] #[.pointer (some ⟨m5 + 1 + 1, 0, none⟩), .pointer (some ⟨m5 + 1, 0, none⟩)], .agg #[.int .i64 x.1.1, .int .i64 x.1.2], undef, undef, undef, undef, undef, undef, undef, undef, undef, undef, undef, undef], defers := [] })
    (fun x a' s X Y row hs hg hrow => by
      obtain ⟨Bx, hBx, h2, he⟩ := hs
      exact ⟨Bx, hBx, Blk.own (β := Unit) _ _ _ () X Y row h2 hg (fun r e => (hrow r e).2), he⟩)
    ?assign ?body ?done ?stop
  case assign =>
    rintro l pre x W K ⟨⟨⟨⟨⟨b6, b7⟩, b0⟩, b5⟩, bO, bh⟩, hB⟩ hK
    have hs := hB.size
    have hlt := b7.lt
    simp only [encP]
    gi_wp2
    exact hK _ _ ((KeepsOthers.alloc _ _).from _) (two2_below b6.lt b7.lt (Joins.below_alloc1 _ _)) ⟨⟨⟨⟨⟨b6.alloc _, b7.alloc _⟩, b0.alloc _⟩, b5.alloc _⟩, bO.keep (fun k _ h2 => Below.heap_alloc _ _ _ (by omega)), by simp; omega⟩, hB.alloc hs _⟩ ⟨W.heap.size, hlt, heap_alloc_last W _, rfl⟩
  case body =>
    rintro l pre xe a' WB hl' _ ⟨⟨⟨⟨⟨b6, b7⟩, b0⟩, b5⟩, bO, bh⟩, hB⟩ ⟨Bx, hBx, h2, rfl⟩ hlt
    have hin := xe.2
    unfold InG at hin
    obtain ⟨x, hxn⟩ : ∃ k : Nat, xe.1.1 = k := ⟨xe.1.1.toNat, by omega⟩
    obtain ⟨y, hyn⟩ : ∃ k : Nat, xe.1.2 = k := ⟨xe.1.2.toNat, by omega⟩
    have hx : x < a := by omega
    have hy : y < b := by omega
    have hset := chF_set (gyG a b g) a pre xe x y hxn hyn hx
    have hoth := fun y' h => chF_other (gyG a b g) a pre xe y y' hyn h
    have C1 : Hid (∀ W, Calls Tryd.prog 90 #[.agg C, .int .i64 (x : Int), .int .i64 (y : Int)] W (SaysB (blackB a b g (x : Int) (y : Int)) W)) := CB.out _ _
    have hgz : gyG a b g y x = gyB (blackB a b g (x : Int) (y : Int)) := rfl
    obtain ⟨bk, hbk⟩ : ∃ t, blackB a b g (x : Int) (y : Int) = t := ⟨_, rfl⟩
    rw [hbk] at C1 hgz
    have C2 : Hid (∀ W, Calls Tryd.prog 96 #[.bool bk] W (fun e w' => e = .returned (.int .i64 (gyB bk)) ∧ Below W.heap.size W w')) := fun W => (greyOf_any bk W).mono fun e w' ⟨h1, h2⟩ => ⟨h1, by rw [← h2]; exact Below.refl _ _⟩
    obtain ⟨z, hz⟩ : ∃ z, gyB bk = z := ⟨_, rfl⟩
    rw [hz] at C2 hgz
    rw [hgz] at hset
    rw [hxn, hyn] at h2 ⊢
    have hey := bO.each y hy
    obtain ⟨ru, cu, hus⟩ : ∃ g c, us y = .slice (some ⟨g, 0, none⟩) a c := by
      rcases Joins.ownsRow_forms (show WB.ownsRow (w.heap.size + 1) 2 1 (us y) (chF (gyG a b g) a pre y).length (numsV (chF (gyG a b g) a pre y)) from hey) with ⟨e1, h0⟩ | ⟨g, c, e1⟩
      · rw [chF_len] at h0; omega
      · exact ⟨g, c, by rw [e1, chF_len]⟩
    have hrul : w.heap.size + 1 ≤ ru := (World.ownsRow.lt (h := hey) ru (by rw [hus]; rfl)).1
    have hruh : ru < m5 := bO.up y hy ru (by rw [hus]; rfl)
    have hcrow : WB.cell? ⟨rb, y, none⟩ = some (.slice (some ⟨ru, 0, none⟩) a cu) := by
      have := World.ownsRow.cellAt bO.row y (by omega)
      rw [this]
      simp [hy, hus]
    have heyR : ∀ W, Below WB.heap.size WB W → W.ownsRow (w.heap.size + 1) 2 1 (.slice (some ⟨ru, 0, none⟩) a cu) a (numsV (chF (gyG a b g) a pre y)) := fun W hb => by
      have h := hey.below hb
      unfold OwnN at h
      rw [hus, chF_len] at h
      exact h
    have HEy := Lib.hid heyR
    have HX : Hid (∀ W, Below WB.heap.size WB W → W.cell? ⟨Bx, 0, none⟩ = some (.int .i64 (x : Int)) ∧ W.cell? ⟨Bx, 1, none⟩ = some (.int .i64 (y : Int))) := fun W hb => ⟨cell_kept hb (by rw [Joins.cell_of_block h2 0]; rfl), cell_kept hb (by rw [Joins.cell_of_block h2 1]; rfl)⟩
    have HMx : Hid (∀ W, Below WB.heap.size WB W → W.heap[w.heap.size]? = some (.cells C 63 (0, 0))) := fun W hb => (hb.block _ b0.lt).trans b0
    have HR5 : Hid (∀ W, Below WB.heap.size WB W → W.cell? ⟨m5, 0, none⟩ = some (.slice (some ⟨rb, 0, none⟩) b cr)) := fun W hb => cell_kept hb (cell_of_one b5)
    have HPu : Hid (∀ W, Below WB.heap.size WB W → (∃ u, W.cell? ⟨ru, x, none⟩ = some u) ∧ W.frozen? ⟨ru, x, none⟩ = false) := fun W hb => ⟨by
      have := World.ownsRow.cellAt (heyR W hb) x (by omega)
      refine ⟨((numsV (chF (gyG a b g) a pre y))[x]?).getD undef, this.trans ?_⟩
      have hl : x < (numsV (chF (gyG a b g) a pre y)).length := by simp [numsV, chF_len]; exact hx
      rw [List.getElem?_eq_getElem hl]
      rfl, World.ownsRow.frozenAt (heyR W hb) x⟩
    have CAr : Hid (∀ W, Below WB.heap.size WB W → Calls Tryd.prog 97 #[.slice (some ⟨rb, 0, none⟩) b cr, .agg #[.int .i64 x, .int .i64 y]] W (fun e w' => e = .returned (.pointer (some ⟨ru, x, none⟩)) ∧ Below W.heap.size W w')) := fun W hb => by
      have := atG_at rb 0 b cr a ru 0 cu x y W hx hy (by rw [Nat.zero_add]; exact cell_kept hb hcrow)
      rwa [Nat.zero_add] at this
    have G6 := Lib.hid b6
    have G7 := Lib.hid b7
    have G0 := Lib.hid b0
    have G5 := Lib.hid b5
    have GO := Lib.hid bO
    have GB := Lib.hid hB
    have HSet := Lib.hid hset
    have HOth := Lib.hid hoth
    have HUs := Lib.hid hus
    have hl0 := hB.size
    clear hset hoth hgz hz hbk hin b6 b7 b0 b5 bO hB h2 hxn hyn c0 c5' c6 c7 HB0 ho0 hey hus hcrow heyR CB CBl
    apply wpIn_block
    refine wpIn_region_inv_at (by kernel_rfl) (by intro o ho; simp at ho; rcases ho with rfl | rfl | rfl | rfl | rfl | rfl | rfl | rfl | rfl | rfl | rfl | rfl <;> rfl) (fun A0 L A W => ∃ (b0 b1 b2 b3 b4 b5 b6 b7 b8 b9 b10 b11 : Bool) (v10 v11 v12 v13 v14 v15 v16 v17 v18 v19 v20 : Value), L = #[b0, b1, b2, b3, b4, b5, b6, b7, b8, b9, b10, b11] ∧ A = (((((((((((A0.put (some 10) v10).put (some 11) v11).put (some 12) v12).put (some 13) v13).put (some 14) v14).put (some 15) v15).put (some 16) v16).put (some 17) v17).put (some 18) v18).put (some 19) v19).put (some 20) v20) ∧ (∃ Wp, Below WB.heap.size WB Wp ∧ W = (if b11 = true then Wp.setCell ⟨ru, x, none⟩ (.int .i64 z) else Wp)) ∧ Hid (b0 = true → v10 = .slice (some ⟨rb, 0, none⟩) b cr) ∧ Hid (b1 = true → v11 = .agg #[.int .i64 (x : Int), .int .i64 (y : Int)]) ∧ Hid (b2 = true → v12 = .pointer (some ⟨ru, x, none⟩)) ∧ Hid (b3 = true → v13 = .agg C) ∧ Hid (b4 = true → v14 = .pointer (some ⟨Bx, 0, none⟩)) ∧ Hid (b5 = true → v15 = .int .i64 (x : Int)) ∧ Hid (b6 = true → v16 = .pointer (some ⟨Bx, 1, none⟩)) ∧ Hid (b7 = true → v17 = .int .i64 (y : Int)) ∧ Hid (b8 = true → v18 = .bool bk) ∧ Hid (b9 = true → v19 = .int .i64 z) ∧ Hid (b10 = true → v20 = .pointer (some ⟨ru, x, none⟩)) ∧ Hid ((b0 = false → b11 = false) ∧ (b1 = false → b11 = false) ∧ (b2 = false → b11 = false) ∧ (b3 = false → b11 = false) ∧ (b4 = false → b11 = false) ∧ (b5 = false → b11 = false) ∧ (b6 = false → b11 = false) ∧ (b7 = false → b11 = false) ∧ (b8 = false → b11 = false) ∧ (b9 = false → b11 = false) ∧ (b10 = false → b11 = false))) ?_ ?_ ?_
    · intro A0
      refine ⟨false, false, false, false, false, false, false, false, false, false, false, false, A0.tmps.getD 10 undef, A0.tmps.getD 11 undef, A0.tmps.getD 12 undef, A0.tmps.getD 13 undef, A0.tmps.getD 14 undef, A0.tmps.getD 15 undef, A0.tmps.getD 16 undef, A0.tmps.getD 17 undef, A0.tmps.getD 18 undef, A0.tmps.getD 19 undef, A0.tmps.getD 20 undef, rfl, (by simp only [put_self]), ⟨_, (Below.refl _ _).drew, rfl⟩, Lib.hid (fun hf => by cases hf), Lib.hid (fun hf => by cases hf), Lib.hid (fun hf => by cases hf), Lib.hid (fun hf => by cases hf), Lib.hid (fun hf => by cases hf), Lib.hid (fun hf => by cases hf), Lib.hid (fun hf => by cases hf), Lib.hid (fun hf => by cases hf), Lib.hid (fun hf => by cases hf), Lib.hid (fun hf => by cases hf), Lib.hid (fun hf => by cases hf), Lib.hid ⟨fun _ => rfl, fun _ => rfl, fun _ => rfl, fun _ => rfl, fun _ => rfl, fun _ => rfl, fun _ => rfl, fun _ => rfl, fun _ => rfl, fun _ => rfl, fun _ => rfl⟩⟩
    · intro L A W hI i hi o ho K' hK
      have hlt := (ready_left hi).1
      have hun := (ready_left hi).2
      have haf := ready_after hi ho
      clear hi
      obtain ⟨b0, b1, b2, b3, b4, b5, b6, b7, b8, b9, b10, b11, v10, v11, v12, v13, v14, v15, v16, v17, v18, v19, v20, rfl, rfl, hB, h0, h1, h2, h3, h4, h5, h6, h7, h8, h9, h10, p⟩ := hI
      have hc : i = 0 ∨ i = 1 ∨ i = 2 ∨ i = 3 ∨ i = 4 ∨ i = 5 ∨ i = 6 ∨ i = 7 ∨ i = 8 ∨ i = 9 ∨ i = 10 ∨ i = 11 := by
        simp at hlt
        omega
      rcases hc with rfl | rfl | rfl | rfl | rfl | rfl | rfl | rfl | rfl | rfl | rfl | rfl
      all_goals (obtain rfl := Option.some.inj ho; clear ho; simp [Region.binds] at haf hun; (try simp only [List.getElem_toArray, List.getElem_cons_zero, List.getElem_cons_succ]); simp only [Act.put, List.setIfInBounds_toArray, List.set_cons_zero, List.set_cons_succ])
      · -- operation 0
        replace hK := Lib.hid hK
        have hlast : b11 = false := p.out.1 hun
        subst hlast
        obtain ⟨Wp, hB, hWp⟩ := hB
        have hWq : W = Wp := by simpa using hWp
        clear hWp
        subst hWq
        have q0 := (HX.out W hB).1
        have q1 := (HX.out W hB).2
        have q2 := HMx.out W hB
        have q5 := HR5.out W hB
        obtain ⟨u6, q6⟩ := (HPu.out W hB).1
        have q7 := (HPu.out W hB).2
        subst hun
        go_simp
        exact hK.out _ _ ⟨true, b1, b2, b3, b4, b5, b6, b7, b8, b9, b10, false, .slice (some ⟨rb, 0, none⟩) b cr, v11, v12, v13, v14, v15, v16, v17, v18, v19, v20, rfl, (by simp only [Act.put, List.setIfInBounds_toArray, List.set_cons_zero, List.set_cons_succ]), ⟨_, hB, rfl⟩, Lib.hid (fun _ => rfl), h1, h2, h3, h4, h5, h6, h7, h8, h9, h10, Lib.hid ⟨(fun hf => by cases hf), (fun _ => rfl), (fun _ => rfl), (fun _ => rfl), (fun _ => rfl), (fun _ => rfl), (fun _ => rfl), (fun _ => rfl), (fun _ => rfl), (fun _ => rfl), (fun _ => rfl)⟩⟩
      · -- operation 1
        replace hK := Lib.hid hK
        have hlast : b11 = false := p.out.2.1 hun
        subst hlast
        obtain ⟨Wp, hB, hWp⟩ := hB
        have hWq : W = Wp := by simpa using hWp
        clear hWp
        subst hWq
        have q0 := (HX.out W hB).1
        have q1 := (HX.out W hB).2
        have q2 := HMx.out W hB
        have q5 := HR5.out W hB
        obtain ⟨u6, q6⟩ := (HPu.out W hB).1
        have q7 := (HPu.out W hB).2
        subst hun
        go_simp
        exact hK.out _ _ ⟨b0, true, b2, b3, b4, b5, b6, b7, b8, b9, b10, false, v10, .agg #[.int .i64 (x : Int), .int .i64 (y : Int)], v12, v13, v14, v15, v16, v17, v18, v19, v20, rfl, (by simp only [Act.put, List.setIfInBounds_toArray, List.set_cons_zero, List.set_cons_succ]), ⟨_, hB, rfl⟩, h0, Lib.hid (fun _ => rfl), h2, h3, h4, h5, h6, h7, h8, h9, h10, Lib.hid ⟨(fun _ => rfl), (fun hf => by cases hf), (fun _ => rfl), (fun _ => rfl), (fun _ => rfl), (fun _ => rfl), (fun _ => rfl), (fun _ => rfl), (fun _ => rfl), (fun _ => rfl), (fun _ => rfl)⟩⟩
      · -- operation 2
        replace hK := Lib.hid hK
        have hlast : b11 = false := p.out.2.2.1 hun
        subst hlast
        obtain ⟨Wp, hB, hWp⟩ := hB
        have hWq : W = Wp := by simpa using hWp
        clear hWp
        subst hWq
        have q0 := (HX.out W hB).1
        have q1 := (HX.out W hB).2
        have q2 := HMx.out W hB
        have q5 := HR5.out W hB
        obtain ⟨u6, q6⟩ := (HPu.out W hB).1
        have q7 := (HPu.out W hB).2
        obtain rfl := (h0.out (by simp only [haf])).symm
        obtain rfl := (h1.out (by simp only [haf])).symm
        subst hun
        go_simp
        refine ⟨trivial, ?_⟩
        refine (CallsIn.inRound l (callsIn_wide.2 (CAr.out W hB))).mono ?_
        rintro e W' ⟨rfl, hb⟩
        have hkept := fun kb (hk : kb < W.heap.size) => hb.block kb hk
        exact hK.out _ _ ⟨b0, b1, true, b3, b4, b5, b6, b7, b8, b9, b10, false, .slice (some ⟨rb, 0, none⟩) b cr, .agg #[.int .i64 (x : Int), .int .i64 (y : Int)], .pointer (some ⟨ru, x, none⟩), v13, v14, v15, v16, v17, v18, v19, v20, rfl, (by simp only [Act.put, List.setIfInBounds_toArray, List.set_cons_zero, List.set_cons_succ]), ⟨_, hB.trans (hb.mono hB.size), rfl⟩, Lib.hid (fun _ => rfl), Lib.hid (fun _ => rfl), Lib.hid (fun _ => rfl), h3, h4, h5, h6, h7, h8, h9, h10, Lib.hid ⟨(fun _ => rfl), (fun _ => rfl), (fun hf => by cases hf), (fun _ => rfl), (fun _ => rfl), (fun _ => rfl), (fun _ => rfl), (fun _ => rfl), (fun _ => rfl), (fun _ => rfl), (fun _ => rfl)⟩⟩
      · -- operation 3
        replace hK := Lib.hid hK
        have hlast : b11 = false := p.out.2.2.2.1 hun
        subst hlast
        obtain ⟨Wp, hB, hWp⟩ := hB
        have hWq : W = Wp := by simpa using hWp
        clear hWp
        subst hWq
        have q0 := (HX.out W hB).1
        have q1 := (HX.out W hB).2
        have q2 := HMx.out W hB
        have q5 := HR5.out W hB
        obtain ⟨u6, q6⟩ := (HPu.out W hB).1
        have q7 := (HPu.out W hB).2
        subst hun
        refine wpIn_load_row 63 _ rfl w.heap.size rfl 63 C (0, 0) _ q2 Tryd.underlying63 rfl HIC.out ?_
        exact hK.out _ _ ⟨b0, b1, b2, true, b4, b5, b6, b7, b8, b9, b10, false, v10, v11, v12, .agg C, v14, v15, v16, v17, v18, v19, v20, rfl, (by simp only [Act.put, List.setIfInBounds_toArray, List.set_cons_zero, List.set_cons_succ]), ⟨_, hB, rfl⟩, h0, h1, h2, Lib.hid (fun _ => rfl), h4, h5, h6, h7, h8, h9, h10, Lib.hid ⟨(fun _ => rfl), (fun _ => rfl), (fun _ => rfl), (fun hf => by cases hf), (fun _ => rfl), (fun _ => rfl), (fun _ => rfl), (fun _ => rfl), (fun _ => rfl), (fun _ => rfl), (fun _ => rfl)⟩⟩
      · -- operation 4
        replace hK := Lib.hid hK
        have hlast : b11 = false := p.out.2.2.2.2.1 hun
        subst hlast
        obtain ⟨Wp, hB, hWp⟩ := hB
        have hWq : W = Wp := by simpa using hWp
        clear hWp
        subst hWq
        have q0 := (HX.out W hB).1
        have q1 := (HX.out W hB).2
        have q2 := HMx.out W hB
        have q5 := HR5.out W hB
        obtain ⟨u6, q6⟩ := (HPu.out W hB).1
        have q7 := (HPu.out W hB).2
        subst hun
        go_simp
        exact hK.out _ _ ⟨b0, b1, b2, b3, true, b5, b6, b7, b8, b9, b10, false, v10, v11, v12, v13, .pointer (some ⟨Bx, 0, none⟩), v15, v16, v17, v18, v19, v20, rfl, (by simp only [Act.put, List.setIfInBounds_toArray, List.set_cons_zero, List.set_cons_succ]), ⟨_, hB, rfl⟩, h0, h1, h2, h3, Lib.hid (fun _ => rfl), h5, h6, h7, h8, h9, h10, Lib.hid ⟨(fun _ => rfl), (fun _ => rfl), (fun _ => rfl), (fun _ => rfl), (fun hf => by cases hf), (fun _ => rfl), (fun _ => rfl), (fun _ => rfl), (fun _ => rfl), (fun _ => rfl), (fun _ => rfl)⟩⟩
      · -- operation 5
        replace hK := Lib.hid hK
        have hlast : b11 = false := p.out.2.2.2.2.2.1 hun
        subst hlast
        obtain ⟨Wp, hB, hWp⟩ := hB
        have hWq : W = Wp := by simpa using hWp
        clear hWp
        subst hWq
        have q0 := (HX.out W hB).1
        have q1 := (HX.out W hB).2
        have q2 := HMx.out W hB
        have q5 := HR5.out W hB
        obtain ⟨u6, q6⟩ := (HPu.out W hB).1
        have q7 := (HPu.out W hB).2
        obtain rfl := (h4.out (by simp only [haf])).symm
        subst hun
        go_simp
        exact hK.out _ _ ⟨b0, b1, b2, b3, b4, true, b6, b7, b8, b9, b10, false, v10, v11, v12, v13, .pointer (some ⟨Bx, 0, none⟩), .int .i64 (x : Int), v16, v17, v18, v19, v20, rfl, (by simp only [Act.put, List.setIfInBounds_toArray, List.set_cons_zero, List.set_cons_succ]), ⟨_, hB, rfl⟩, h0, h1, h2, h3, Lib.hid (fun _ => rfl), Lib.hid (fun _ => rfl), h6, h7, h8, h9, h10, Lib.hid ⟨(fun _ => rfl), (fun _ => rfl), (fun _ => rfl), (fun _ => rfl), (fun _ => rfl), (fun hf => by cases hf), (fun _ => rfl), (fun _ => rfl), (fun _ => rfl), (fun _ => rfl), (fun _ => rfl)⟩⟩
      · -- operation 6
        replace hK := Lib.hid hK
        have hlast : b11 = false := p.out.2.2.2.2.2.2.1 hun
        subst hlast
        obtain ⟨Wp, hB, hWp⟩ := hB
        have hWq : W = Wp := by simpa using hWp
        clear hWp
        subst hWq
        have q0 := (HX.out W hB).1
        have q1 := (HX.out W hB).2
        have q2 := HMx.out W hB
        have q5 := HR5.out W hB
        obtain ⟨u6, q6⟩ := (HPu.out W hB).1
        have q7 := (HPu.out W hB).2
        subst hun
        go_simp
        exact hK.out _ _ ⟨b0, b1, b2, b3, b4, b5, true, b7, b8, b9, b10, false, v10, v11, v12, v13, v14, v15, .pointer (some ⟨Bx, 1, none⟩), v17, v18, v19, v20, rfl, (by simp only [Act.put, List.setIfInBounds_toArray, List.set_cons_zero, List.set_cons_succ]), ⟨_, hB, rfl⟩, h0, h1, h2, h3, h4, h5, Lib.hid (fun _ => rfl), h7, h8, h9, h10, Lib.hid ⟨(fun _ => rfl), (fun _ => rfl), (fun _ => rfl), (fun _ => rfl), (fun _ => rfl), (fun _ => rfl), (fun hf => by cases hf), (fun _ => rfl), (fun _ => rfl), (fun _ => rfl), (fun _ => rfl)⟩⟩
      · -- operation 7
        replace hK := Lib.hid hK
        have hlast : b11 = false := p.out.2.2.2.2.2.2.2.1 hun
        subst hlast
        obtain ⟨Wp, hB, hWp⟩ := hB
        have hWq : W = Wp := by simpa using hWp
        clear hWp
        subst hWq
        have q0 := (HX.out W hB).1
        have q1 := (HX.out W hB).2
        have q2 := HMx.out W hB
        have q5 := HR5.out W hB
        obtain ⟨u6, q6⟩ := (HPu.out W hB).1
        have q7 := (HPu.out W hB).2
        obtain rfl := (h6.out (by simp only [haf])).symm
        subst hun
        go_simp
        exact hK.out _ _ ⟨b0, b1, b2, b3, b4, b5, b6, true, b8, b9, b10, false, v10, v11, v12, v13, v14, v15, .pointer (some ⟨Bx, 1, none⟩), .int .i64 (y : Int), v18, v19, v20, rfl, (by simp only [Act.put, List.setIfInBounds_toArray, List.set_cons_zero, List.set_cons_succ]), ⟨_, hB, rfl⟩, h0, h1, h2, h3, h4, h5, Lib.hid (fun _ => rfl), Lib.hid (fun _ => rfl), h8, h9, h10, Lib.hid ⟨(fun _ => rfl), (fun _ => rfl), (fun _ => rfl), (fun _ => rfl), (fun _ => rfl), (fun _ => rfl), (fun _ => rfl), (fun hf => by cases hf), (fun _ => rfl), (fun _ => rfl), (fun _ => rfl)⟩⟩
      · -- operation 8
        replace hK := Lib.hid hK
        have hlast : b11 = false := p.out.2.2.2.2.2.2.2.2.1 hun
        subst hlast
        obtain ⟨Wp, hB, hWp⟩ := hB
        have hWq : W = Wp := by simpa using hWp
        clear hWp
        subst hWq
        have q0 := (HX.out W hB).1
        have q1 := (HX.out W hB).2
        have q2 := HMx.out W hB
        have q5 := HR5.out W hB
        obtain ⟨u6, q6⟩ := (HPu.out W hB).1
        have q7 := (HPu.out W hB).2
        obtain rfl := (h3.out (by simp only [haf])).symm
        obtain rfl := (h5.out (by simp only [haf])).symm
        obtain rfl := (h7.out (by simp only [haf])).symm
        subst hun
        go_simp
        refine ⟨trivial, ?_⟩
        refine (CallsIn.inRound l (callsIn_wide.2 (C1.out W))).mono ?_
        rintro e W' ⟨rfl, hb⟩
        have hkept := fun kb (hk : kb < W.heap.size) => hb.block kb hk
        exact hK.out _ _ ⟨b0, b1, b2, b3, b4, b5, b6, b7, true, b9, b10, false, v10, v11, v12, .agg C, v14, .int .i64 (x : Int), v16, .int .i64 (y : Int), .bool bk, v19, v20, rfl, (by simp only [Act.put, List.setIfInBounds_toArray, List.set_cons_zero, List.set_cons_succ]), ⟨_, hB.trans (hb.mono hB.size), rfl⟩, h0, h1, h2, Lib.hid (fun _ => rfl), h4, Lib.hid (fun _ => rfl), h6, Lib.hid (fun _ => rfl), Lib.hid (fun _ => rfl), h9, h10, Lib.hid ⟨(fun _ => rfl), (fun _ => rfl), (fun _ => rfl), (fun _ => rfl), (fun _ => rfl), (fun _ => rfl), (fun _ => rfl), (fun _ => rfl), (fun hf => by cases hf), (fun _ => rfl), (fun _ => rfl)⟩⟩
      · -- operation 9
        replace hK := Lib.hid hK
        have hlast : b11 = false := p.out.2.2.2.2.2.2.2.2.2.1 hun
        subst hlast
        obtain ⟨Wp, hB, hWp⟩ := hB
        have hWq : W = Wp := by simpa using hWp
        clear hWp
        subst hWq
        have q0 := (HX.out W hB).1
        have q1 := (HX.out W hB).2
        have q2 := HMx.out W hB
        have q5 := HR5.out W hB
        obtain ⟨u6, q6⟩ := (HPu.out W hB).1
        have q7 := (HPu.out W hB).2
        obtain rfl := (h8.out (by simp only [haf])).symm
        subst hun
        go_simp
        refine ⟨trivial, ?_⟩
        refine (CallsIn.inRound l (callsIn_wide.2 (C2.out W))).mono ?_
        rintro e W' ⟨rfl, hb⟩
        have hkept := fun kb (hk : kb < W.heap.size) => hb.block kb hk
        exact hK.out _ _ ⟨b0, b1, b2, b3, b4, b5, b6, b7, b8, true, b10, false, v10, v11, v12, v13, v14, v15, v16, v17, .bool bk, .int .i64 z, v20, rfl, (by simp only [Act.put, List.setIfInBounds_toArray, List.set_cons_zero, List.set_cons_succ]), ⟨_, hB.trans (hb.mono hB.size), rfl⟩, h0, h1, h2, h3, h4, h5, h6, h7, Lib.hid (fun _ => rfl), Lib.hid (fun _ => rfl), h10, Lib.hid ⟨(fun _ => rfl), (fun _ => rfl), (fun _ => rfl), (fun _ => rfl), (fun _ => rfl), (fun _ => rfl), (fun _ => rfl), (fun _ => rfl), (fun _ => rfl), (fun hf => by cases hf), (fun _ => rfl)⟩⟩
      · -- operation 10
        replace hK := Lib.hid hK
        have hlast : b11 = false := p.out.2.2.2.2.2.2.2.2.2.2 hun
        subst hlast
        obtain ⟨Wp, hB, hWp⟩ := hB
        have hWq : W = Wp := by simpa using hWp
        clear hWp
        subst hWq
        have q0 := (HX.out W hB).1
        have q1 := (HX.out W hB).2
        have q2 := HMx.out W hB
        have q5 := HR5.out W hB
        obtain ⟨u6, q6⟩ := (HPu.out W hB).1
        have q7 := (HPu.out W hB).2
        obtain rfl := (h2.out (by simp only [haf])).symm
        subst hun
        go_simp
        exact hK.out _ _ ⟨b0, b1, b2, b3, b4, b5, b6, b7, b8, b9, true, false, v10, v11, .pointer (some ⟨ru, x, none⟩), v13, v14, v15, v16, v17, v18, v19, .pointer (some ⟨ru, x, none⟩), rfl, (by simp only [Act.put, List.setIfInBounds_toArray, List.set_cons_zero, List.set_cons_succ]), ⟨_, hB, rfl⟩, h0, h1, Lib.hid (fun _ => rfl), h3, h4, h5, h6, h7, h8, h9, Lib.hid (fun _ => rfl), Lib.hid ⟨(fun _ => rfl), (fun _ => rfl), (fun _ => rfl), (fun _ => rfl), (fun _ => rfl), (fun _ => rfl), (fun _ => rfl), (fun _ => rfl), (fun _ => rfl), (fun _ => rfl), (fun hf => by cases hf)⟩⟩
      · -- operation 11
        replace hK := Lib.hid hK
        subst hun
        obtain ⟨Wp, hB, hWp⟩ := hB
        have hWq : W = Wp := by simpa using hWp
        clear hWp
        subst hWq
        have q0 := (HX.out W hB).1
        have q1 := (HX.out W hB).2
        have q2 := HMx.out W hB
        have q5 := HR5.out W hB
        obtain ⟨u6, q6⟩ := (HPu.out W hB).1
        have q7 := (HPu.out W hB).2
        obtain rfl := (h9.out (by simp only [haf])).symm
        obtain rfl := (h10.out (by simp only [haf])).symm
        go_simp
        exact hK.out _ _ ⟨b0, b1, b2, b3, b4, b5, b6, b7, b8, b9, b10, true, v10, v11, v12, v13, v14, v15, v16, v17, v18, .int .i64 z, .pointer (some ⟨ru, x, none⟩), rfl, (by simp only [Act.put, List.setIfInBounds_toArray, List.set_cons_zero, List.set_cons_succ]), ⟨_, hB, rfl⟩, h0, h1, h2, h3, h4, h5, h6, h7, h8, Lib.hid (fun _ => rfl), Lib.hid (fun _ => rfl), Lib.hid ⟨(fun hf => absurd (show false = true from hf.symm.trans (by simp only [haf])) (by decide)), (fun hf => absurd (show false = true from hf.symm.trans (by simp only [haf])) (by decide)), (fun hf => absurd (show false = true from hf.symm.trans (by simp only [haf])) (by decide)), (fun hf => absurd (show false = true from hf.symm.trans (by simp only [haf])) (by decide)), (fun hf => absurd (show false = true from hf.symm.trans (by simp only [haf])) (by decide)), (fun hf => absurd (show false = true from hf.symm.trans (by simp only [haf])) (by decide)), (fun hf => absurd (show false = true from hf.symm.trans (by simp only [haf])) (by decide)), (fun hf => absurd (show false = true from hf.symm.trans (by simp only [haf])) (by decide)), (fun hf => absurd (show false = true from hf.symm.trans (by simp only [haf])) (by decide)), (fun hf => absurd (show false = true from hf.symm.trans (by simp only [haf])) (by decide)), (fun hf => absurd (show false = true from hf.symm.trans (by simp only [haf])) (by decide))⟩⟩
    intro L A W hI hr
    obtain ⟨b0, b1, b2, b3, b4, b5, b6, b7, b8, b9, b10, b11, v10, v11, v12, v13, v14, v15, v16, v17, v18, v19, v20, rfl, rfl, hB, h0, h1, h2, h3, h4, h5, h6, h7, h8, h9, h10, p⟩ := hI
    have d0 := ready_done hr 0 _ rfl (by simp [Region.binds])
    simp at d0
    subst d0
    have d1 := ready_done hr 1 _ rfl (by simp [Region.binds])
    simp at d1
    subst d1
    have d2 := ready_done hr 2 _ rfl (by simp [Region.binds])
    simp at d2
    subst d2
    have d3 := ready_done hr 3 _ rfl (by simp [Region.binds])
    simp at d3
    subst d3
    have d4 := ready_done hr 4 _ rfl (by simp [Region.binds])
    simp at d4
    subst d4
    have d5 := ready_done hr 5 _ rfl (by simp [Region.binds])
    simp at d5
    subst d5
    have d6 := ready_done hr 6 _ rfl (by simp [Region.binds])
    simp at d6
    subst d6
    have d7 := ready_done hr 7 _ rfl (by simp [Region.binds])
    simp at d7
    subst d7
    have d8 := ready_done hr 8 _ rfl (by simp [Region.binds])
    simp at d8
    subst d8
    have d9 := ready_done hr 9 _ rfl (by simp [Region.binds])
    simp at d9
    subst d9
    have d10 := ready_done hr 10 _ rfl (by simp [Region.binds])
    simp at d10
    subst d10
    have d11 := ready_done hr 11 _ rfl (by simp [Region.binds])
    simp at d11
    subst d11
    obtain rfl := (h0.out rfl).symm
    obtain rfl := (h1.out rfl).symm
    obtain rfl := (h2.out rfl).symm
    obtain rfl := (h3.out rfl).symm
    obtain rfl := (h4.out rfl).symm
    obtain rfl := (h5.out rfl).symm
    obtain rfl := (h6.out rfl).symm
    obtain rfl := (h7.out rfl).symm
    obtain rfl := (h8.out rfl).symm
    obtain rfl := (h9.out rfl).symm
    obtain rfl := (h10.out rfl).symm
    obtain ⟨Wp, hB, hWp⟩ := hB
    have hWq : W = Wp.setCell ⟨ru, x, none⟩ (.int .i64 z) := by simpa using hWp
    clear hWp
    subst hWq
    simp only [Act.put, List.setIfInBounds_toArray, List.set_cons_zero, List.set_cons_succ]
    clear hr h0 h1 h2 h3 h4 h5 h6 h7 h8 h9 h10 p
    have hrow9 := World.ownsRow.stored (h := HEy.out Wp hB) x (.int .i64 z)
    have KO : ∀ k, k ≠ ru → k < WB.heap.size → (Wp.setCell ⟨ru, x, none⟩ (.int .i64 z)).heap[k]? = WB.heap[k]? := fun k hk hlt => (Below.heap_setCell Wp ⟨ru, x, none⟩ _ k hk).trans (hB.block k hlt)
    have hO9 : OwnR (Wp.setCell ⟨ru, x, none⟩ (.int .i64 z)) (w.heap.size + 1) m5 (.slice (some ⟨rb, 0, none⟩) b cr) us b (chF (gyG a b g) a (pre ++ [xe])) := by
      have hk := GO.out.keep (w' := Wp) (fun k _ h2 => hB.block k (Nat.lt_of_lt_of_le h2 bh))
      refine (hk.wrote hy (g := chF (gyG a b g) a (pre ++ [xe]) y) ?_ ?_).congr (fun i hi => ?_)
      · rw [HUs.out]
        have h9 := hrow9.1
        rw [HSet.out] at h9
        unfold OwnN
        rw [chF_len]
        exact h9
      · rw [HUs.out]
        exact grown_cell _ _ _
      · by_cases e : i = y
        · subst e; simp
        · rw [if_neg e]; exact (HOth.out i e).symm
    gi_wp2
    refine ⟨⟨by simp; exact hB.size, fun k o hk hko _ => (KO k (by omega) (Array.getElem?_eq_some_iff.1 hko).1).trans hko⟩, ⟨KO _ (by omega) G6.out.lt, KO _ (by omega) G7.out.lt⟩, ⟨⟨⟨⟨⟨(KO _ (by omega) G6.out.lt).trans G6.out, (KO _ (by omega) G7.out.lt).trans G7.out⟩, (KO _ (by omega) G0.out.lt).trans G0.out⟩, (KO _ (by omega) G5.out.lt).trans G5.out⟩, hO9, by simp; exact Nat.le_trans bh hB.size⟩, (GB.out.trans (hB.mono hl0)).setCell (p := ⟨ru, x, none⟩) (by show w.heap.size ≤ ru; omega) _⟩⟩
  case done =>
    rintro D ys W hD rfl ⟨⟨⟨⟨⟨b6, b7⟩, b0⟩, b5⟩, bO, bh⟩, hB⟩ hK
    have hc5 := cell_of_one b5
    have hD2 : m5 < D := by omega
    gi_wp2
    refine ⟨by simp, .inl ⟨_, _, rfl, run_takeDeferred hK, ?_⟩⟩
    have hEnd : OwnR (W.putObj D (.deferred none)) (w.heap.size + 1) m5 (.slice (some ⟨rb, 0, none⟩) b cr) us b (rwF (gyG a b g) a) := (bO.keep (fun k _ h2 => World.putObj_heap_other (by omega))).congr (fun i hi => chF_full _ a b ha1 hb1 i hi)
    refine ⟨_, results_tmp rfl _ _ _, rb, cr, rfl, ⟨us, hEnd.mono (by omega) (by simp; omega)⟩, ?_⟩
    exact hB.trans (belowK_b (w := w) (Nat.le_refl _) _ D _ _ (by omega) hK rfl rfl)
  case stop =>
    rintro D c pre W _ _ h _
    exact h.elim
end Go.Proofs.YtnmnlbgialolhaaDoor
