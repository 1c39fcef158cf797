/- Contracts of single functions, and plain lemmas, on which the exact laws of this seat rest; each holds under the conditions that it states. -/
import Derived.Test.YtnmnlbgialolhaaDoorOGs
import Derived.Test.YtnmnlbgialolhaaDoorRBd
import Derived.Test.YtnmnlbgialolhaaDoorGP
import Derived.Test.YtnmnlbgialolhaaDoorAT2
import Derived.Test.YtnmnlbgialolhaaDoorGE
namespace Go.Proofs.YtnmnlbgialolhaaDoor
set_option linter.unusedVariables false
set_option linter.unusedSimpArgs false
open Go.RowKit Go.Shelf
attribute [local go_sem] Oper.semAt_some

/-- the table in its variable -/
def PlcP (w : World) : Prop := (∀ j, j < 16 → w.cell? ⟨0, j, none⟩ = some (.int .i64 (tbI j))) ∧ 0 < w.heap.size
theorem PlcP.below {w w' : World} (h : PlcP w) (hb : Below w.heap.size w w') : PlcP w' :=
  ⟨fun j hj => cell_kept hb (h.1 j hj), Nat.lt_of_lt_of_le h.2 hb.size⟩
theorem call_Ordered1 (args : Array Value) (W : World) : (callFunc 73 args).run Tryd.prog W = .ok (.enter 73 args) W := by simp [go_sem]

set_option maxRecDepth 100000 in
set_option maxHeartbeats 4000000 in
theorem ordWork_yes (gb : Nat) (v : Value) (gs : List (List Int)) (w : World) (hN : gs.length ≤ 1048576) (hf : ∀ i, i < gs.length → (rowF gs i).length ≤ 1048576) (hv : SlG w v gs) (hr : NoRes w) (hP : PlcP w) (hg : w.heap[gb]? = some (.cells #[v] 35 (0, 0))) (hok : vG 99 gs = true) :
    Calls Tryd.prog 73 #[.pointer (some ⟨gb, 0, none⟩)] w (TookPic w (mkPic (rowF gs 0).length gs.length (odF gs))) := by
  have V := vg_of hok
  have hmf : ∀ (fn : Fn) (first cap : Array Value) (w : World), (Instr.makeFunc fn first cap).run Tryd.prog w = .ok (.func fn first cap) w := fun _ _ _ _ => rfl
  refine (callsIn_wide (n := 7)).1 ?_
  obtain ⟨b, off, cap, bb, oo, cc, rfl, hG⟩ := gAt_of V hv
  have hb0 := Joins.below_alloc1 w (.cells #[.slice none 0 0] 26)
  have p0 := heap_alloc_last w (.cells #[.slice none 0 0] 26)
  obtain ⟨W0, hW0⟩ : ∃ W0, w.alloc (.cells #[.slice none 0 0] 26) = W0 := ⟨_, rfl⟩
  rw [hW0] at hb0 p0
  have hs0 : W0.heap.size = w.heap.size + 1 := by rw [← hW0]; simp
  have HW0 := Lib.hid hW0
  have HG0 : Hid ((w.alloc (.cells #[.slice none 0 0] 26)).heap[gb]? = some (.cells #[.slice (some ⟨b, off, none⟩) gs.length cap] 35 (0, 0))) := (Below.heap_alloc _ _ _ (Array.getElem?_eq_some_iff.1 hg).1).trans hg
  have HIG : Hid ((Tryd.prog.info? 35).map (·.size) = some 1) := by show _ = _; kernel_rfl
  have CG : Hid (∀ W, Below W0.heap.size W0 W → Calls Tryd.prog 67 #[.agg #[.slice (some ⟨b, off, none⟩) gs.length cap]] W (fun e w' => e = .returned (.slice (some ⟨b, off, none⟩) gs.length cap) ∧ Below W.heap.size W w')) := fun W hb => (requiredGrey_any (.slice (some ⟨b, off, none⟩) gs.length cap) gs W hN hf ((hv.below hb0).below hb) ((hr.below hb0).below hb)).mono fun e w' h => by
    rcases h.1 with ⟨_, h1⟩ | ⟨h1, _⟩
    · exact ⟨h1, h.2⟩
    · rw [hok] at h1; cases h1
  have CS : Hid (∀ W, Below W0.heap.size W0 W → Calls Tryd.prog 69 #[.slice (some ⟨b, off, none⟩) gs.length cap] W (fun e w' => e = .returned (.agg (mcells (rowF gs 0).length gs.length (fun _ => 0))) ∧ Below W.heap.size W w')) := fun W hb => sizeG_any (.slice (some ⟨b, off, none⟩) gs.length cap) gs W V ((hv.below hb0).below hb)
  have CPi : Hid (∀ W, Calls Tryd.prog 44 #[.agg (mat (rowF gs 0).length gs.length (dnG (odF gs) ((gGrid (rowF gs 0).length gs.length V.w1 V.n1).list (gs.length * (rowF gs 0).length))))] W (TookPic W (mkPic (rowF gs 0).length gs.length (odF gs)))) := fun W => dn_pic _ _ V.w1 V.n1 V.w16 V.n16 _ W
  have hSeq : ∀ (lb : Nat) (W : World), Below W0.heap.size W0 W → w.heap.size ≤ lb → lb < W.heap.size → SeqB 6 Tryd.prog 74 #[.slice (some ⟨b, off, none⟩) gs.length cap] #[] (encG (a := (rowF gs 0).length) (n := gs.length) (gF gs)) (Keep1 lb) (fun xs => xs = (gGrid (rowF gs 0).length gs.length V.w1 V.n1).list (gs.length * (rowF gs 0).length)) (gs.length * (rowF gs 0).length) W := fun lb W hb h1 h2 =>
    items_seq b off gs.length (rowF gs 0).length cap bb oo cc (gF gs) lb W V.w1 V.w16 V.n1 V.n16 h2 (((hG _ h1).below hb0).below hb) (fun W' hb' => CS.out W' (hb.trans (hb'.mono hb.size)))
  have HP : Hid (∀ W, Below w.heap.size w W → PlcP W) := fun W hb => hP.below hb
  have HBd : Hid (∀ y, y < gs.length → ∀ x, x < (rowF gs 0).length → 0 ≤ gF gs y x ∧ gF gs y x ≤ 99) := V.num
  obtain ⟨M, hM⟩ : ∃ M, mcells (rowF gs 0).length gs.length (fun _ => 0) = M := ⟨_, rfl⟩
  have hsz : M.size = 18 := by rw [← hM]; rfl
  have HI : Hid ((Tryd.prog.info? 63).map (·.size) = some M.size) := by show _ = _; rw [hsz]; exact infoM
  have HZ0 : Hid (zeros.size = M.size) := by show _ = _; rw [hsz]; rfl
  have HO : Hid (M.all (·.oneCell') = true) := by show _ = _; rw [← hM]; exact mcells_one _ _ _
  have HM0 : Hid (M = mat (rowF gs 0).length gs.length (dnG (odF gs) ([] : List { q : Int × Int // InG (rowF gs 0).length gs.length q }))) := by show _ = _; rw [← hM]; rfl
  rw [hM] at CS
  have HR0 := Lib.hid p0
  have HB0 := Lib.hid hb0
  have w1' := V.w1
  have n1' := V.n1
  have w16' := V.w16
  have n16' := V.n16
  have HSeq := Lib.hid hSeq
  clear hSeq hG hM hW0 hv hr hP hN hf hok hg
  refine callsIn_of_wp_marks Tryd.func73 rfl trivial ?_ rfl
  simp only [Tryd.ntmps73, List.size_toArray, List.length_cons, List.length_nil, Nat.reduceAdd, Nat.reduceSub, Array.replicate_succ, Array.replicate_zero, List.push_toArray, List.append_toArray, List.nil_append, List.cons_append]
  gi_wp2_with (first | (refine wpListIn_load_row rfl 35 _ rfl gb rfl 35 #[.slice (some ⟨b, off, none⟩) gs.length cap] (0, 0) _ HG0.out Tryd.underlying35 rfl HIG.out ?_) | (rw [HW0.out]; refine ⟨trivial, ?_⟩; gi_at_call 67; refine (callsIn_wide.2 (CG.out _ (Below.refl _ _))).mono ?_; rintro e w1 ⟨rfl, hb1⟩; refine Hid.out ?_))
  have HB1 := Lib.hid hb1
  clear hb1
  refine Lib.hid ?_
  gi_wp2_with (refine ⟨trivial, ?_⟩; gi_at_call 69; refine (callsIn_wide.2 (CS.out _ HB1.out)).mono ?_; rintro e w2 ⟨rfl, hb2⟩; refine Hid.out ?_)
  have HB2 := Lib.hid (HB1.out.trans (hb2.mono HB1.out.size))
  clear hb2
  refine Lib.hid ?_
  gi_wp2_with (refine wpListIn_store_new w2 rfl 63 _ _ rfl M rfl rfl 63 zeros HI.out HZ0.out HO.out ?_; refine Hid.out ?_)
  refine Lib.hid ?_
  have b2 : Blk (w2.alloc (.cells M 63)) w2.heap.size M 63 := heap_alloc_last w2 _
  have hbA := HB2.out.trans ((Joins.below_alloc1 w2 (.cells M 63)).mono HB2.out.size)
  have hsl2 := HB2.out.size
  have hS := HSeq.out w2.heap.size (w2.alloc (.cells M 63)) hbA (by omega) (by simp)
  have hR3 := (hbA.block _ (Array.getElem?_eq_some_iff.1 HR0.out).1).trans HR0.out
  have hB3 := HB0.out.trans (hbA.mono HB0.out.size)
  gi_wp2
  obtain ⟨W3, hW3⟩ : ∃ W3, w2.alloc (.cells M 63) = W3 := ⟨_, rfl⟩
  have hs3 : W3.heap.size = w2.heap.size + 1 := by rw [← hW3]; simp
  rw [hW3] at b2 hS hR3 hB3 ⊢
  obtain ⟨m5, hm5⟩ : ∃ m, w2.heap.size = m := ⟨_, rfl⟩
  rw [hm5] at b2 hS hs3 hsl2 ⊢
  have hm0 : w.heap.size < m5 := by omega
  clear hm5 hW3 hbA HB2 HB1 HSeq HB0 HR0 CG CS p0 hb0 HG0 HIG
  refine rangeSeq (α := { q : Int × Int // InG (rowF gs 0).length gs.length q }) (by omega) (gf := 74) (fs := #[.slice (some ⟨b, off, none⟩) gs.length cap]) (lb := #[]) rfl calls_items hS keep1_t keep1_b (Below.refl _ _) (fun _ => rfl)
    (fun pre W => (Blk W m5 (mat (rowF gs 0).length gs.length (dnG (odF gs) pre)) 63 ∧ Blk W w.heap.size #[.slice none 0 0] 26) ∧ Below w.heap.size w W)
    (OwnFrom.and (OwnFrom.and (Own.from (BlkG.own m5 (fun pre => mat (rowF gs 0).length gs.length (dnG (odF gs) pre)) 63) _) (Own.from (Blk.own _ _ _) _)) (ownFrom_below (Nat.le_refl _) (by omega)))
    ⟨⟨by rw [← HM0.out]; exact b2, hR3⟩, hB3⟩
    (fun x a' W => ∃ Bx, m5 < Bx ∧ Blk W Bx #[.int .i64 x.1.1, .int .i64 x.1.2] 93 ∧ a' = { tmps := #[.pointer (some ⟨gb, 0, none⟩), .pointer (some ⟨w.heap.size, 0, none⟩), .slice (some ⟨b, off, none⟩) gs.length cap, .pointer (some ⟨m5, 0, none⟩), .pointer (some ⟨Bx, 0, none⟩), .int .i64 (gF gs x.1.2.toNat x.1.1.toNat), .agg #[.slice (some ⟨b, off, none⟩) gs.length cap], .slice (some ⟨b, off, none⟩) gs.length cap, .slice (some ⟨b, off, none⟩) gs.length cap, .agg M, .slice (some ⟨b, off, none⟩) gs.length cap, .func (.func 74) #[.slice (some ⟨b, off, none⟩) gs.length cap] #[], .agg #[.int .i64 x.1.1, .int .i64 x.1.2], .int .i64 (gF gs x.1.2.toNat x.1.1.toNat), undef, undef, undef, undef, undef, undef, undef, undef, undef, undef, undef, undef, undef, undef, undef, undef, undef, undef, undef, undef, undef, undef], defers := [] })
    (fun x a' s X Y row hs hg hrow => by
      obtain ⟨Bx, hBx, h2, he⟩ := hs
      exact ⟨Bx, hBx, Blk.own (β := Unit) _ _ _ () X Y row h2 hg (fun r e => (hrow r e).2), he⟩)
    ?assign ?body ?done
  case assign =>
    rintro l pre x W K ⟨⟨b5, br⟩, hB⟩ hK
    have hs := hB.size
    have hlt := b5.lt
    simp only [encG]
    gi_wp2
    exact hK _ _ ((KeepsOthers.alloc _ _).from _) (Keep1.below (Joins.below_alloc1 _ _)) ⟨⟨b5.alloc _, br.alloc _⟩, hB.alloc hs _⟩ ⟨W.heap.size, hlt, heap_alloc_last W _, rfl⟩
  case body =>
    rintro l pre xe a' WB hl' _ ⟨⟨b5, br⟩, hB⟩ ⟨Bx, hBx, h2, rfl⟩ hlt
    have hin := xe.2
    unfold InG at hin
    obtain ⟨x, hxn⟩ : ∃ k : Nat, xe.1.1 = k := ⟨xe.1.1.toNat, by omega⟩
    obtain ⟨y, hyn⟩ : ∃ k : Nat, xe.1.2 = k := ⟨xe.1.2.toNat, by omega⟩
    have hx : x < (rowF gs 0).length := by omega
    have hy : y < gs.length := by omega
    have hsn : dnG (odF gs) (pre ++ [xe]) = updG (dnG (odF gs) pre) y x (odF gs y x) := by
      rw [dn_snoc, hxn, hyn, Int.toNat_natCast, Int.toNat_natCast]
    have hod : odF gs y x = decide (16 * gF gs y x + 8 < 100 * tbI (y % 4 * 4 + x % 4) + 50) := rfl
    have hbd := HBd.out y hy x hx
    have htb := tbI_bd (y % 4 * 4 + x % 4)
    have hTc : ∀ W, Below WB.heap.size WB W → W.cell? ⟨0, y % 4 * 4 + x % 4, none⟩ = some (.int .i64 (tbI (y % 4 * 4 + x % 4))) := fun W hb => (HP.out W (hB.trans (hb.mono hB.size))).1 _ (by omega)
    obtain ⟨pm, hp⟩ : ∃ t, y % 4 = t := ⟨_, rfl⟩
    obtain ⟨rm, hr⟩ : ∃ t, x % 4 = t := ⟨_, rfl⟩
    rw [hp, hr] at hod htb hTc
    obtain ⟨tb, htbe⟩ : ∃ t, tbI (pm * 4 + rm) = t := ⟨_, rfl⟩
    rw [htbe] at hod htb hTc
    rw [hxn, hyn] at h2 ⊢
    simp only [Int.toNat_natCast]
    obtain ⟨z, hz⟩ : ∃ z, gF gs y x = z := ⟨_, rfl⟩
    rw [hz] at hod hbd ⊢
    obtain ⟨c, hc⟩ : ∃ c, odF gs y x = c := ⟨_, rfl⟩
    rw [hc] at hod hsn
    have kc : decide (16 * z + 8 < 100 * tb + 50) = c := hod.symm
    have kw1 : IntKind.i64.wrap (16 * z) = 16 * z := IntWalk.i64_in _ (by omega)
    have kw2 : IntKind.i64.wrap (16 * z + 8) = 16 * z + 8 := IntWalk.i64_in _ (by omega)
    have kw3 : IntKind.i64.wrap (100 * tb) = 100 * tb := IntWalk.i64_in _ (by omega)
    have kw4 : IntKind.i64.wrap (100 * tb + 50) = 100 * tb + 50 := IntWalk.i64_in _ (by omega)
    have kw5 : (y : Int).tmod 4 = (pm : Int) := by rw [show (y : Int).tmod 4 = ((y % 4 : Nat) : Int) from by first | rfl | exact (Int.ofNat_tmod y 4).symm, hp]
    have kw6 : (x : Int).tmod 4 = (rm : Int) := by rw [show (x : Int).tmod 4 = ((x % 4 : Nat) : Int) from by first | rfl | exact (Int.ofNat_tmod x 4).symm, hr]
    have kp : (pm : Int) < 4 := by omega
    have kp0 : (0 : Int) ≤ (pm : Int) := by omega
    have kr : (rm : Int) < 4 := by omega
    have kr0 : (0 : Int) ≤ (rm : Int) := by omega
    have HSn := Lib.hid hsn
    have HT := Lib.hid hTc
    have HX : Hid (∀ W, Below WB.heap.size WB W → W.cell? ⟨Bx, 0, none⟩ = some (.int .i64 (x : Int)) ∧ W.cell? ⟨Bx, 1, none⟩ = some (.int .i64 (y : Int))) := fun W hb => ⟨cell_kept hb (by rw [Joins.cell_of_block h2 0]; rfl), cell_kept hb (by rw [Joins.cell_of_block h2 1]; rfl)⟩
    have CSt : Hid (∀ W, Below WB.heap.size WB W → Calls Tryd.prog 75 #[.pointer (some ⟨m5, 0, none⟩), .int .i64 x, .int .i64 y, .bool c] W (fun e w' => e = .returned (.tuple #[]) ∧ SetX W w' m5 (rowF gs 0).length gs.length (dnG (odF gs) pre) y x c)) := fun W hb => set_any2 m5 _ _ _ x y c W ((hb.block _ b5.lt).trans b5) (by omega) (by omega) (dn_lt _ _ w16' y)
    have G5 := Lib.hid b5
    have GR := Lib.hid br
    have GB := Lib.hid hB
    have hl0 := hB.size
    clear hsn hod hbd htb hTc hp hr htbe hz hc hin b5 br hB h2 hxn hyn hS hR3 hB3 b2
    apply wpIn_block
    refine wpIn_region_inv_at (by kernel_rfl) (by intro o ho; simp at ho; rcases ho with rfl | rfl | rfl | rfl | rfl | rfl | rfl | rfl | rfl | rfl | rfl | rfl | rfl | rfl | rfl | rfl | rfl | rfl | rfl | rfl <;> rfl) (fun A0 L A W => ∃ (b0 b1 b2 b3 b4 b5 b6 b7 b8 b9 b10 b11 b12 b13 b14 b15 b16 b17 b18 b19 : Bool) (v14 v15 v16 v17 v18 v19 v20 v21 v22 v23 v24 v25 v26 v27 v28 v29 v30 v31 v32 v33 : Value), L = #[b0, b1, b2, b3, b4, b5, b6, b7, b8, b9, b10, b11, b12, b13, b14, b15, b16, b17, b18, b19] ∧ A = ((((((((((((((((((((A0.put (some 14) v14).put (some 15) v15).put (some 16) v16).put (some 17) v17).put (some 18) v18).put (some 19) v19).put (some 20) v20).put (some 21) v21).put (some 22) v22).put (some 23) v23).put (some 24) v24).put (some 25) v25).put (some 26) v26).put (some 27) v27).put (some 28) v28).put (some 29) v29).put (some 30) v30).put (some 31) v31).put (some 32) v32).put (some 33) v33) ∧ (∃ Wp, Below WB.heap.size WB Wp ∧ (if b19 = true then SetX Wp W m5 (rowF gs 0).length gs.length (dnG (odF gs) pre) y x c else W = Wp)) ∧ Hid (b0 = true → v14 = .pointer (some ⟨Bx, 0, none⟩)) ∧ Hid (b1 = true → v15 = .int .i64 (x : Int)) ∧ Hid (b2 = true → v16 = .pointer (some ⟨Bx, 1, none⟩)) ∧ Hid (b3 = true → v17 = .int .i64 (y : Int)) ∧ Hid (b4 = true → v18 = .int .i64 z) ∧ Hid (b5 = true → v19 = .int .i64 (16 * z)) ∧ Hid (b6 = true → v20 = .int .i64 (16 * z + 8)) ∧ Hid (b7 = true → v21 = .pointer (some ⟨Bx, 1, none⟩)) ∧ Hid (b8 = true → v22 = .int .i64 (y : Int)) ∧ Hid (b9 = true → v23 = .int .i64 (pm : Int)) ∧ Hid (b10 = true → v24 = .pointer (some ⟨Bx, 0, none⟩)) ∧ Hid (b11 = true → v25 = .int .i64 (x : Int)) ∧ Hid (b12 = true → v26 = .int .i64 (rm : Int)) ∧ Hid (b13 = true → v27 = .pointer (some ⟨0, pm * 4, none⟩)) ∧ Hid (b14 = true → v28 = .pointer (some ⟨0, pm * 4 + rm, none⟩)) ∧ Hid (b15 = true → v29 = .int .i64 tb) ∧ Hid (b16 = true → v30 = .int .i64 (100 * tb)) ∧ Hid (b17 = true → v31 = .int .i64 (100 * tb + 50)) ∧ Hid (b18 = true → v32 = .bool c) ∧ Hid (b19 = true → v33 = .tuple #[]) ∧ Hid ((b1 = false → b19 = false) ∧ (b3 = false → b19 = false) ∧ (b18 = false → b19 = false)) ∧ Hid (b1 = true → b0 = true) ∧ Hid (b3 = true → b2 = true) ∧ Hid (b5 = true → b4 = true) ∧ Hid (b6 = true → b5 = true) ∧ Hid (b18 = true → b6 = true) ∧ Hid (b8 = true → b7 = true) ∧ Hid (b9 = true → b8 = true) ∧ Hid (b13 = true → b9 = true) ∧ Hid (b11 = true → b10 = true) ∧ Hid (b12 = true → b11 = true) ∧ Hid (b14 = true → b12 = true) ∧ Hid (b14 = true → b13 = true) ∧ Hid (b15 = true → b14 = true) ∧ Hid (b16 = true → b15 = true) ∧ Hid (b17 = true → b16 = true) ∧ Hid (b18 = true → b17 = true)) ?_ ?_ ?_
    · intro A0
      refine ⟨false, false, false, false, false, false, false, false, false, false, false, false, false, false, false, false, false, false, false, false, A0.tmps.getD 14 undef, A0.tmps.getD 15 undef, A0.tmps.getD 16 undef, A0.tmps.getD 17 undef, A0.tmps.getD 18 undef, A0.tmps.getD 19 undef, A0.tmps.getD 20 undef, A0.tmps.getD 21 undef, A0.tmps.getD 22 undef, A0.tmps.getD 23 undef, A0.tmps.getD 24 undef, A0.tmps.getD 25 undef, A0.tmps.getD 26 undef, A0.tmps.getD 27 undef, A0.tmps.getD 28 undef, A0.tmps.getD 29 undef, A0.tmps.getD 30 undef, A0.tmps.getD 31 undef, A0.tmps.getD 32 undef, A0.tmps.getD 33 undef, rfl, (by simp only [put_self]), ⟨_, (Below.refl _ _).drew, (by simp)⟩, Lib.hid (fun hf => by cases hf), Lib.hid (fun hf => by cases hf), Lib.hid (fun hf => by cases hf), Lib.hid (fun hf => by cases hf), Lib.hid (fun hf => by cases hf), Lib.hid (fun hf => by cases hf), Lib.hid (fun hf => by cases hf), Lib.hid (fun hf => by cases hf), Lib.hid (fun hf => by cases hf), Lib.hid (fun hf => by cases hf), Lib.hid (fun hf => by cases hf), Lib.hid (fun hf => by cases hf), Lib.hid (fun hf => by cases hf), Lib.hid (fun hf => by cases hf), Lib.hid (fun hf => by cases hf), Lib.hid (fun hf => by cases hf), Lib.hid (fun hf => by cases hf), Lib.hid (fun hf => by cases hf), Lib.hid (fun hf => by cases hf), Lib.hid (fun hf => by cases hf), Lib.hid ⟨fun _ => rfl, fun _ => rfl, fun _ => rfl⟩, Lib.hid (fun hf => by cases hf), Lib.hid (fun hf => by cases hf), Lib.hid (fun hf => by cases hf), Lib.hid (fun hf => by cases hf), Lib.hid (fun hf => by cases hf), Lib.hid (fun hf => by cases hf), Lib.hid (fun hf => by cases hf), Lib.hid (fun hf => by cases hf), Lib.hid (fun hf => by cases hf), Lib.hid (fun hf => by cases hf), Lib.hid (fun hf => by cases hf), Lib.hid (fun hf => by cases hf), Lib.hid (fun hf => by cases hf), Lib.hid (fun hf => by cases hf), Lib.hid (fun hf => by cases hf), Lib.hid (fun hf => by cases hf)⟩
    · intro L A W hI i hi o ho K' hK
      have hlt := (ready_left hi).1
      have hun := (ready_left hi).2
      have haf := ready_after hi ho
      clear hi
      refine hI.elim fun b0 e0_ => e0_.elim fun b1 e1_ => e1_.elim fun b2 e2_ => e2_.elim fun b3 e3_ => e3_.elim fun b4 e4_ => e4_.elim fun b5 e5_ => e5_.elim fun b6 e6_ => e6_.elim fun b7 e7_ => e7_.elim fun b8 e8_ => e8_.elim fun b9 e9_ => e9_.elim fun b10 e10_ => e10_.elim fun b11 e11_ => e11_.elim fun b12 e12_ => e12_.elim fun b13 e13_ => e13_.elim fun b14 e14_ => e14_.elim fun b15 e15_ => e15_.elim fun b16 e16_ => e16_.elim fun b17 e17_ => e17_.elim fun b18 e18_ => e18_.elim fun b19 e19_ => e19_.elim fun v14 e20_ => e20_.elim fun v15 e21_ => e21_.elim fun v16 e22_ => e22_.elim fun v17 e23_ => e23_.elim fun v18 e24_ => e24_.elim fun v19 e25_ => e25_.elim fun v20 e26_ => e26_.elim fun v21 e27_ => e27_.elim fun v22 e28_ => e28_.elim fun v23 e29_ => e29_.elim fun v24 e30_ => e30_.elim fun v25 e31_ => e31_.elim fun v26 e32_ => e32_.elim fun v27 e33_ => e33_.elim fun v28 e34_ => e34_.elim fun v29 e35_ => e35_.elim fun v30 e36_ => e36_.elim fun v31 e37_ => e37_.elim fun v32 e38_ => e38_.elim fun v33 e39_ => e39_.elim fun hLq e40_ => e40_.elim fun hAq e41_ => e41_.elim fun hB e42_ => e42_.elim fun h0 e43_ => e43_.elim fun h1 e44_ => e44_.elim fun h2 e45_ => e45_.elim fun h3 e46_ => e46_.elim fun h4 e47_ => e47_.elim fun h5 e48_ => e48_.elim fun h6 e49_ => e49_.elim fun h7 e50_ => e50_.elim fun h8 e51_ => e51_.elim fun h9 e52_ => e52_.elim fun h10 e53_ => e53_.elim fun h11 e54_ => e54_.elim fun h12 e55_ => e55_.elim fun h13 e56_ => e56_.elim fun h14 e57_ => e57_.elim fun h15 e58_ => e58_.elim fun h16 e59_ => e59_.elim fun h17 e60_ => e60_.elim fun h18 e61_ => e61_.elim fun h19 e62_ => e62_.elim fun p e63_ => e63_.elim fun u1_0 e64_ => e64_.elim fun u3_2 e65_ => e65_.elim fun u5_4 e66_ => e66_.elim fun u6_5 e67_ => e67_.elim fun u18_6 e68_ => e68_.elim fun u8_7 e69_ => e69_.elim fun u9_8 e70_ => e70_.elim fun u13_9 e71_ => e71_.elim fun u11_10 e72_ => e72_.elim fun u12_11 e73_ => e73_.elim fun u14_12 e74_ => e74_.elim fun u14_13 e75_ => e75_.elim fun u15_14 e76_ => e76_.elim fun u16_15 e77_ => e77_.elim fun u17_16 u18_17 => ?_
      clear hI e0_ e1_ e2_ e3_ e4_ e5_ e6_ e7_ e8_ e9_ e10_ e11_ e12_ e13_ e14_ e15_ e16_ e17_ e18_ e19_ e20_ e21_ e22_ e23_ e24_ e25_ e26_ e27_ e28_ e29_ e30_ e31_ e32_ e33_ e34_ e35_ e36_ e37_ e38_ e39_ e40_ e41_ e42_ e43_ e44_ e45_ e46_ e47_ e48_ e49_ e50_ e51_ e52_ e53_ e54_ e55_ e56_ e57_ e58_ e59_ e60_ e61_ e62_ e63_ e64_ e65_ e66_ e67_ e68_ e69_ e70_ e71_ e72_ e73_ e74_ e75_ e76_ e77_
      subst hLq
      subst hAq
      have hc : i = 0 ∨ i = 1 ∨ i = 2 ∨ i = 3 ∨ i = 4 ∨ i = 5 ∨ i = 6 ∨ i = 7 ∨ i = 8 ∨ i = 9 ∨ i = 10 ∨ i = 11 ∨ i = 12 ∨ i = 13 ∨ i = 14 ∨ i = 15 ∨ i = 16 ∨ i = 17 ∨ i = 18 ∨ i = 19 := by
        simp at hlt
        omega
      rcases hc with rfl | rfl | rfl | rfl | rfl | rfl | rfl | rfl | rfl | rfl | rfl | rfl | rfl | rfl | rfl | rfl | rfl | rfl | rfl | rfl
      all_goals (obtain rfl := Option.some.inj ho; clear ho; simp [Region.binds] at haf hun; (try simp only [List.getElem_toArray, List.getElem_cons_zero, List.getElem_cons_succ]); simp only [Act.put, List.setIfInBounds_toArray, List.set_cons_zero, List.set_cons_succ])
      · -- operation 0
        replace hK := Lib.hid hK
        have hmid0 : b1 = false := by cases hb : b1 with | false => rfl | true => exact absurd (show true = false from (u1_0.out hb).symm.trans hun) (by decide)
        have hlast : b19 = false := p.out.1 hmid0
        clear hmid0
        subst hlast
        obtain ⟨Wp, hB, hWp⟩ := hB
        have hWq : W = Wp := by simpa using hWp
        clear hWp
        subst hWq
        have q0 := (HX.out W hB).1
        have q1 := (HX.out W hB).2
        have q2 := HT.out W hB
        subst hun
        go_simp
        exact hK.out _ _ ⟨true, b1, b2, b3, b4, b5, b6, b7, b8, b9, b10, b11, b12, b13, b14, b15, b16, b17, b18, false, .pointer (some ⟨Bx, 0, none⟩), v15, v16, v17, v18, v19, v20, v21, v22, v23, v24, v25, v26, v27, v28, v29, v30, v31, v32, v33, rfl, (by simp only [Act.put, List.setIfInBounds_toArray, List.set_cons_zero, List.set_cons_succ]), ⟨_, hB, by simp⟩, Lib.hid (fun _ => rfl), h1, h2, h3, h4, h5, h6, h7, h8, h9, h10, h11, h12, h13, h14, h15, h16, h17, h18, h19, Lib.hid ⟨(fun _ => rfl), (fun _ => rfl), (fun _ => rfl)⟩, Lib.hid (fun _ => rfl), u3_2, u5_4, u6_5, u18_6, u8_7, u9_8, u13_9, u11_10, u12_11, u14_12, u14_13, u15_14, u16_15, u17_16, u18_17⟩
      · -- operation 1
        replace hK := Lib.hid hK
        have hlast : b19 = false := p.out.1 hun
        subst hlast
        obtain ⟨Wp, hB, hWp⟩ := hB
        have hWq : W = Wp := by simpa using hWp
        clear hWp
        subst hWq
        have q0 := (HX.out W hB).1
        have q1 := (HX.out W hB).2
        have q2 := HT.out W hB
        obtain rfl := (h0.out (by simp only [haf])).symm
        subst hun
        go_simp
        exact hK.out _ _ ⟨b0, true, b2, b3, b4, b5, b6, b7, b8, b9, b10, b11, b12, b13, b14, b15, b16, b17, b18, false, .pointer (some ⟨Bx, 0, none⟩), .int .i64 (x : Int), v16, v17, v18, v19, v20, v21, v22, v23, v24, v25, v26, v27, v28, v29, v30, v31, v32, v33, rfl, (by simp only [Act.put, List.setIfInBounds_toArray, List.set_cons_zero, List.set_cons_succ]), ⟨_, hB, by simp⟩, Lib.hid (fun _ => rfl), Lib.hid (fun _ => rfl), h2, h3, h4, h5, h6, h7, h8, h9, h10, h11, h12, h13, h14, h15, h16, h17, h18, h19, Lib.hid ⟨(fun hf => by cases hf), (fun _ => rfl), (fun _ => rfl)⟩, Lib.hid (fun _ => (by simp only [haf])), u3_2, u5_4, u6_5, u18_6, u8_7, u9_8, u13_9, u11_10, u12_11, u14_12, u14_13, u15_14, u16_15, u17_16, u18_17⟩
      · -- operation 2
        replace hK := Lib.hid hK
        have hmid0 : b3 = false := by cases hb : b3 with | false => rfl | true => exact absurd (show true = false from (u3_2.out hb).symm.trans hun) (by decide)
        have hlast : b19 = false := p.out.2.1 hmid0
        clear hmid0
        subst hlast
        obtain ⟨Wp, hB, hWp⟩ := hB
        have hWq : W = Wp := by simpa using hWp
        clear hWp
        subst hWq
        have q0 := (HX.out W hB).1
        have q1 := (HX.out W hB).2
        have q2 := HT.out W hB
        subst hun
        go_simp
        exact hK.out _ _ ⟨b0, b1, true, b3, b4, b5, b6, b7, b8, b9, b10, b11, b12, b13, b14, b15, b16, b17, b18, false, v14, v15, .pointer (some ⟨Bx, 1, none⟩), v17, v18, v19, v20, v21, v22, v23, v24, v25, v26, v27, v28, v29, v30, v31, v32, v33, rfl, (by simp only [Act.put, List.setIfInBounds_toArray, List.set_cons_zero, List.set_cons_succ]), ⟨_, hB, by simp⟩, h0, h1, Lib.hid (fun _ => rfl), h3, h4, h5, h6, h7, h8, h9, h10, h11, h12, h13, h14, h15, h16, h17, h18, h19, Lib.hid ⟨(fun _ => rfl), (fun _ => rfl), (fun _ => rfl)⟩, u1_0, Lib.hid (fun _ => rfl), u5_4, u6_5, u18_6, u8_7, u9_8, u13_9, u11_10, u12_11, u14_12, u14_13, u15_14, u16_15, u17_16, u18_17⟩
      · -- operation 3
        replace hK := Lib.hid hK
        have hlast : b19 = false := p.out.2.1 hun
        subst hlast
        obtain ⟨Wp, hB, hWp⟩ := hB
        have hWq : W = Wp := by simpa using hWp
        clear hWp
        subst hWq
        have q0 := (HX.out W hB).1
        have q1 := (HX.out W hB).2
        have q2 := HT.out W hB
        obtain rfl := (h2.out (by simp only [haf])).symm
        subst hun
        go_simp
        exact hK.out _ _ ⟨b0, b1, b2, true, b4, b5, b6, b7, b8, b9, b10, b11, b12, b13, b14, b15, b16, b17, b18, false, v14, v15, .pointer (some ⟨Bx, 1, none⟩), .int .i64 (y : Int), v18, v19, v20, v21, v22, v23, v24, v25, v26, v27, v28, v29, v30, v31, v32, v33, rfl, (by simp only [Act.put, List.setIfInBounds_toArray, List.set_cons_zero, List.set_cons_succ]), ⟨_, hB, by simp⟩, h0, h1, Lib.hid (fun _ => rfl), Lib.hid (fun _ => rfl), h4, h5, h6, h7, h8, h9, h10, h11, h12, h13, h14, h15, h16, h17, h18, h19, Lib.hid ⟨(fun _ => rfl), (fun hf => by cases hf), (fun _ => rfl)⟩, u1_0, Lib.hid (fun _ => (by simp only [haf])), u5_4, u6_5, u18_6, u8_7, u9_8, u13_9, u11_10, u12_11, u14_12, u14_13, u15_14, u16_15, u17_16, u18_17⟩
      · -- operation 4
        replace hK := Lib.hid hK
        have hmid0 : b5 = false := by cases hb : b5 with | false => rfl | true => exact absurd (show true = false from (u5_4.out hb).symm.trans hun) (by decide)
        have hmid1 : b6 = false := by cases hb : b6 with | false => rfl | true => exact absurd (show true = false from (u6_5.out hb).symm.trans hmid0) (by decide)
        have hmid2 : b18 = false := by cases hb : b18 with | false => rfl | true => exact absurd (show true = false from (u18_6.out hb).symm.trans hmid1) (by decide)
        have hlast : b19 = false := p.out.2.2 hmid2
        clear hmid0 hmid1 hmid2
        subst hlast
        obtain ⟨Wp, hB, hWp⟩ := hB
        have hWq : W = Wp := by simpa using hWp
        clear hWp
        subst hWq
        have q0 := (HX.out W hB).1
        have q1 := (HX.out W hB).2
        have q2 := HT.out W hB
        subst hun
        go_simp
        exact hK.out _ _ ⟨b0, b1, b2, b3, true, b5, b6, b7, b8, b9, b10, b11, b12, b13, b14, b15, b16, b17, b18, false, v14, v15, v16, v17, .int .i64 z, v19, v20, v21, v22, v23, v24, v25, v26, v27, v28, v29, v30, v31, v32, v33, rfl, (by simp only [Act.put, List.setIfInBounds_toArray, List.set_cons_zero, List.set_cons_succ]), ⟨_, hB, by simp⟩, h0, h1, h2, h3, Lib.hid (fun _ => rfl), h5, h6, h7, h8, h9, h10, h11, h12, h13, h14, h15, h16, h17, h18, h19, Lib.hid ⟨(fun _ => rfl), (fun _ => rfl), (fun _ => rfl)⟩, u1_0, u3_2, Lib.hid (fun _ => rfl), u6_5, u18_6, u8_7, u9_8, u13_9, u11_10, u12_11, u14_12, u14_13, u15_14, u16_15, u17_16, u18_17⟩
      · -- operation 5
        replace hK := Lib.hid hK
        have hmid0 : b6 = false := by cases hb : b6 with | false => rfl | true => exact absurd (show true = false from (u6_5.out hb).symm.trans hun) (by decide)
        have hmid1 : b18 = false := by cases hb : b18 with | false => rfl | true => exact absurd (show true = false from (u18_6.out hb).symm.trans hmid0) (by decide)
        have hlast : b19 = false := p.out.2.2 hmid1
        clear hmid0 hmid1
        subst hlast
        obtain ⟨Wp, hB, hWp⟩ := hB
        have hWq : W = Wp := by simpa using hWp
        clear hWp
        subst hWq
        have q0 := (HX.out W hB).1
        have q1 := (HX.out W hB).2
        have q2 := HT.out W hB
        obtain rfl := (h4.out (by simp only [haf])).symm
        subst hun
        go_simp
        exact hK.out _ _ ⟨b0, b1, b2, b3, b4, true, b6, b7, b8, b9, b10, b11, b12, b13, b14, b15, b16, b17, b18, false, v14, v15, v16, v17, .int .i64 z, .int .i64 (16 * z), v20, v21, v22, v23, v24, v25, v26, v27, v28, v29, v30, v31, v32, v33, rfl, (by simp only [Act.put, List.setIfInBounds_toArray, List.set_cons_zero, List.set_cons_succ]), ⟨_, hB, by simp⟩, h0, h1, h2, h3, Lib.hid (fun _ => rfl), Lib.hid (fun _ => rfl), h6, h7, h8, h9, h10, h11, h12, h13, h14, h15, h16, h17, h18, h19, Lib.hid ⟨(fun _ => rfl), (fun _ => rfl), (fun _ => rfl)⟩, u1_0, u3_2, Lib.hid (fun _ => (by simp only [haf])), Lib.hid (fun _ => rfl), u18_6, u8_7, u9_8, u13_9, u11_10, u12_11, u14_12, u14_13, u15_14, u16_15, u17_16, u18_17⟩
      · -- operation 6
        replace hK := Lib.hid hK
        have hmid0 : b18 = false := by cases hb : b18 with | false => rfl | true => exact absurd (show true = false from (u18_6.out hb).symm.trans hun) (by decide)
        have hlast : b19 = false := p.out.2.2 hmid0
        clear hmid0
        subst hlast
        obtain ⟨Wp, hB, hWp⟩ := hB
        have hWq : W = Wp := by simpa using hWp
        clear hWp
        subst hWq
        have q0 := (HX.out W hB).1
        have q1 := (HX.out W hB).2
        have q2 := HT.out W hB
        obtain rfl := (h5.out (by simp only [haf])).symm
        subst hun
        go_simp
        exact hK.out _ _ ⟨b0, b1, b2, b3, b4, b5, true, b7, b8, b9, b10, b11, b12, b13, b14, b15, b16, b17, b18, false, v14, v15, v16, v17, v18, .int .i64 (16 * z), .int .i64 (16 * z + 8), v21, v22, v23, v24, v25, v26, v27, v28, v29, v30, v31, v32, v33, rfl, (by simp only [Act.put, List.setIfInBounds_toArray, List.set_cons_zero, List.set_cons_succ]), ⟨_, hB, by simp⟩, h0, h1, h2, h3, h4, Lib.hid (fun _ => rfl), Lib.hid (fun _ => rfl), h7, h8, h9, h10, h11, h12, h13, h14, h15, h16, h17, h18, h19, Lib.hid ⟨(fun _ => rfl), (fun _ => rfl), (fun _ => rfl)⟩, u1_0, u3_2, u5_4, Lib.hid (fun _ => (by simp only [haf])), Lib.hid (fun _ => rfl), u8_7, u9_8, u13_9, u11_10, u12_11, u14_12, u14_13, u15_14, u16_15, u17_16, u18_17⟩
      · -- operation 7
        replace hK := Lib.hid hK
        have hmid0 : b8 = false := by cases hb : b8 with | false => rfl | true => exact absurd (show true = false from (u8_7.out hb).symm.trans hun) (by decide)
        have hmid1 : b9 = false := by cases hb : b9 with | false => rfl | true => exact absurd (show true = false from (u9_8.out hb).symm.trans hmid0) (by decide)
        have hmid2 : b13 = false := by cases hb : b13 with | false => rfl | true => exact absurd (show true = false from (u13_9.out hb).symm.trans hmid1) (by decide)
        have hmid3 : b14 = false := by cases hb : b14 with | false => rfl | true => exact absurd (show true = false from (u14_13.out hb).symm.trans hmid2) (by decide)
        have hmid4 : b15 = false := by cases hb : b15 with | false => rfl | true => exact absurd (show true = false from (u15_14.out hb).symm.trans hmid3) (by decide)
        have hmid5 : b16 = false := by cases hb : b16 with | false => rfl | true => exact absurd (show true = false from (u16_15.out hb).symm.trans hmid4) (by decide)
        have hmid6 : b17 = false := by cases hb : b17 with | false => rfl | true => exact absurd (show true = false from (u17_16.out hb).symm.trans hmid5) (by decide)
        have hmid7 : b18 = false := by cases hb : b18 with | false => rfl | true => exact absurd (show true = false from (u18_17.out hb).symm.trans hmid6) (by decide)
        have hlast : b19 = false := p.out.2.2 hmid7
        clear hmid0 hmid1 hmid2 hmid3 hmid4 hmid5 hmid6 hmid7
        subst hlast
        obtain ⟨Wp, hB, hWp⟩ := hB
        have hWq : W = Wp := by simpa using hWp
        clear hWp
        subst hWq
        have q0 := (HX.out W hB).1
        have q1 := (HX.out W hB).2
        have q2 := HT.out W hB
        subst hun
        go_simp
        exact hK.out _ _ ⟨b0, b1, b2, b3, b4, b5, b6, true, b8, b9, b10, b11, b12, b13, b14, b15, b16, b17, b18, false, v14, v15, v16, v17, v18, v19, v20, .pointer (some ⟨Bx, 1, none⟩), v22, v23, v24, v25, v26, v27, v28, v29, v30, v31, v32, v33, rfl, (by simp only [Act.put, List.setIfInBounds_toArray, List.set_cons_zero, List.set_cons_succ]), ⟨_, hB, by simp⟩, h0, h1, h2, h3, h4, h5, h6, Lib.hid (fun _ => rfl), h8, h9, h10, h11, h12, h13, h14, h15, h16, h17, h18, h19, Lib.hid ⟨(fun _ => rfl), (fun _ => rfl), (fun _ => rfl)⟩, u1_0, u3_2, u5_4, u6_5, u18_6, Lib.hid (fun _ => rfl), u9_8, u13_9, u11_10, u12_11, u14_12, u14_13, u15_14, u16_15, u17_16, u18_17⟩
      · -- operation 8
        replace hK := Lib.hid hK
        have hmid0 : b9 = false := by cases hb : b9 with | false => rfl | true => exact absurd (show true = false from (u9_8.out hb).symm.trans hun) (by decide)
        have hmid1 : b13 = false := by cases hb : b13 with | false => rfl | true => exact absurd (show true = false from (u13_9.out hb).symm.trans hmid0) (by decide)
        have hmid2 : b14 = false := by cases hb : b14 with | false => rfl | true => exact absurd (show true = false from (u14_13.out hb).symm.trans hmid1) (by decide)
        have hmid3 : b15 = false := by cases hb : b15 with | false => rfl | true => exact absurd (show true = false from (u15_14.out hb).symm.trans hmid2) (by decide)
        have hmid4 : b16 = false := by cases hb : b16 with | false => rfl | true => exact absurd (show true = false from (u16_15.out hb).symm.trans hmid3) (by decide)
        have hmid5 : b17 = false := by cases hb : b17 with | false => rfl | true => exact absurd (show true = false from (u17_16.out hb).symm.trans hmid4) (by decide)
        have hmid6 : b18 = false := by cases hb : b18 with | false => rfl | true => exact absurd (show true = false from (u18_17.out hb).symm.trans hmid5) (by decide)
        have hlast : b19 = false := p.out.2.2 hmid6
        clear hmid0 hmid1 hmid2 hmid3 hmid4 hmid5 hmid6
        subst hlast
        obtain ⟨Wp, hB, hWp⟩ := hB
        have hWq : W = Wp := by simpa using hWp
        clear hWp
        subst hWq
        have q0 := (HX.out W hB).1
        have q1 := (HX.out W hB).2
        have q2 := HT.out W hB
        obtain rfl := (h7.out (by simp only [haf])).symm
        subst hun
        go_simp
        exact hK.out _ _ ⟨b0, b1, b2, b3, b4, b5, b6, b7, true, b9, b10, b11, b12, b13, b14, b15, b16, b17, b18, false, v14, v15, v16, v17, v18, v19, v20, .pointer (some ⟨Bx, 1, none⟩), .int .i64 (y : Int), v23, v24, v25, v26, v27, v28, v29, v30, v31, v32, v33, rfl, (by simp only [Act.put, List.setIfInBounds_toArray, List.set_cons_zero, List.set_cons_succ]), ⟨_, hB, by simp⟩, h0, h1, h2, h3, h4, h5, h6, Lib.hid (fun _ => rfl), Lib.hid (fun _ => rfl), h9, h10, h11, h12, h13, h14, h15, h16, h17, h18, h19, Lib.hid ⟨(fun _ => rfl), (fun _ => rfl), (fun _ => rfl)⟩, u1_0, u3_2, u5_4, u6_5, u18_6, Lib.hid (fun _ => (by simp only [haf])), Lib.hid (fun _ => rfl), u13_9, u11_10, u12_11, u14_12, u14_13, u15_14, u16_15, u17_16, u18_17⟩
      · -- operation 9
        replace hK := Lib.hid hK
        have hmid0 : b13 = false := by cases hb : b13 with | false => rfl | true => exact absurd (show true = false from (u13_9.out hb).symm.trans hun) (by decide)
        have hmid1 : b14 = false := by cases hb : b14 with | false => rfl | true => exact absurd (show true = false from (u14_13.out hb).symm.trans hmid0) (by decide)
        have hmid2 : b15 = false := by cases hb : b15 with | false => rfl | true => exact absurd (show true = false from (u15_14.out hb).symm.trans hmid1) (by decide)
        have hmid3 : b16 = false := by cases hb : b16 with | false => rfl | true => exact absurd (show true = false from (u16_15.out hb).symm.trans hmid2) (by decide)
        have hmid4 : b17 = false := by cases hb : b17 with | false => rfl | true => exact absurd (show true = false from (u17_16.out hb).symm.trans hmid3) (by decide)
        have hmid5 : b18 = false := by cases hb : b18 with | false => rfl | true => exact absurd (show true = false from (u18_17.out hb).symm.trans hmid4) (by decide)
        have hlast : b19 = false := p.out.2.2 hmid5
        clear hmid0 hmid1 hmid2 hmid3 hmid4 hmid5
        subst hlast
        obtain ⟨Wp, hB, hWp⟩ := hB
        have hWq : W = Wp := by simpa using hWp
        clear hWp
        subst hWq
        have q0 := (HX.out W hB).1
        have q1 := (HX.out W hB).2
        have q2 := HT.out W hB
        obtain rfl := (h8.out (by simp only [haf])).symm
        subst hun
        go_simp
        try rw [kw5]
        exact hK.out _ _ ⟨b0, b1, b2, b3, b4, b5, b6, b7, b8, true, b10, b11, b12, b13, b14, b15, b16, b17, b18, false, v14, v15, v16, v17, v18, v19, v20, v21, .int .i64 (y : Int), .int .i64 (pm : Int), v24, v25, v26, v27, v28, v29, v30, v31, v32, v33, rfl, (by simp only [Act.put, List.setIfInBounds_toArray, List.set_cons_zero, List.set_cons_succ]), ⟨_, hB, by simp⟩, h0, h1, h2, h3, h4, h5, h6, h7, Lib.hid (fun _ => rfl), Lib.hid (fun _ => rfl), h10, h11, h12, h13, h14, h15, h16, h17, h18, h19, Lib.hid ⟨(fun _ => rfl), (fun _ => rfl), (fun _ => rfl)⟩, u1_0, u3_2, u5_4, u6_5, u18_6, u8_7, Lib.hid (fun _ => (by simp only [haf])), Lib.hid (fun _ => rfl), u11_10, u12_11, u14_12, u14_13, u15_14, u16_15, u17_16, u18_17⟩
      · -- operation 10
        replace hK := Lib.hid hK
        have hmid0 : b11 = false := by cases hb : b11 with | false => rfl | true => exact absurd (show true = false from (u11_10.out hb).symm.trans hun) (by decide)
        have hmid1 : b12 = false := by cases hb : b12 with | false => rfl | true => exact absurd (show true = false from (u12_11.out hb).symm.trans hmid0) (by decide)
        have hmid2 : b14 = false := by cases hb : b14 with | false => rfl | true => exact absurd (show true = false from (u14_12.out hb).symm.trans hmid1) (by decide)
        have hmid3 : b15 = false := by cases hb : b15 with | false => rfl | true => exact absurd (show true = false from (u15_14.out hb).symm.trans hmid2) (by decide)
        have hmid4 : b16 = false := by cases hb : b16 with | false => rfl | true => exact absurd (show true = false from (u16_15.out hb).symm.trans hmid3) (by decide)
        have hmid5 : b17 = false := by cases hb : b17 with | false => rfl | true => exact absurd (show true = false from (u17_16.out hb).symm.trans hmid4) (by decide)
        have hmid6 : b18 = false := by cases hb : b18 with | false => rfl | true => exact absurd (show true = false from (u18_17.out hb).symm.trans hmid5) (by decide)
        have hlast : b19 = false := p.out.2.2 hmid6
        clear hmid0 hmid1 hmid2 hmid3 hmid4 hmid5 hmid6
        subst hlast
        obtain ⟨Wp, hB, hWp⟩ := hB
        have hWq : W = Wp := by simpa using hWp
        clear hWp
        subst hWq
        have q0 := (HX.out W hB).1
        have q1 := (HX.out W hB).2
        have q2 := HT.out W hB
        subst hun
        go_simp
        exact hK.out _ _ ⟨b0, b1, b2, b3, b4, b5, b6, b7, b8, b9, true, b11, b12, b13, b14, b15, b16, b17, b18, false, v14, v15, v16, v17, v18, v19, v20, v21, v22, v23, .pointer (some ⟨Bx, 0, none⟩), v25, v26, v27, v28, v29, v30, v31, v32, v33, rfl, (by simp only [Act.put, List.setIfInBounds_toArray, List.set_cons_zero, List.set_cons_succ]), ⟨_, hB, by simp⟩, h0, h1, h2, h3, h4, h5, h6, h7, h8, h9, Lib.hid (fun _ => rfl), h11, h12, h13, h14, h15, h16, h17, h18, h19, Lib.hid ⟨(fun _ => rfl), (fun _ => rfl), (fun _ => rfl)⟩, u1_0, u3_2, u5_4, u6_5, u18_6, u8_7, u9_8, u13_9, Lib.hid (fun _ => rfl), u12_11, u14_12, u14_13, u15_14, u16_15, u17_16, u18_17⟩
      · -- operation 11
        replace hK := Lib.hid hK
        have hmid0 : b12 = false := by cases hb : b12 with | false => rfl | true => exact absurd (show true = false from (u12_11.out hb).symm.trans hun) (by decide)
        have hmid1 : b14 = false := by cases hb : b14 with | false => rfl | true => exact absurd (show true = false from (u14_12.out hb).symm.trans hmid0) (by decide)
        have hmid2 : b15 = false := by cases hb : b15 with | false => rfl | true => exact absurd (show true = false from (u15_14.out hb).symm.trans hmid1) (by decide)
        have hmid3 : b16 = false := by cases hb : b16 with | false => rfl | true => exact absurd (show true = false from (u16_15.out hb).symm.trans hmid2) (by decide)
        have hmid4 : b17 = false := by cases hb : b17 with | false => rfl | true => exact absurd (show true = false from (u17_16.out hb).symm.trans hmid3) (by decide)
        have hmid5 : b18 = false := by cases hb : b18 with | false => rfl | true => exact absurd (show true = false from (u18_17.out hb).symm.trans hmid4) (by decide)
        have hlast : b19 = false := p.out.2.2 hmid5
        clear hmid0 hmid1 hmid2 hmid3 hmid4 hmid5
        subst hlast
        obtain ⟨Wp, hB, hWp⟩ := hB
        have hWq : W = Wp := by simpa using hWp
        clear hWp
        subst hWq
        have q0 := (HX.out W hB).1
        have q1 := (HX.out W hB).2
        have q2 := HT.out W hB
        obtain rfl := (h10.out (by simp only [haf])).symm
        subst hun
        go_simp
        exact hK.out _ _ ⟨b0, b1, b2, b3, b4, b5, b6, b7, b8, b9, b10, true, b12, b13, b14, b15, b16, b17, b18, false, v14, v15, v16, v17, v18, v19, v20, v21, v22, v23, .pointer (some ⟨Bx, 0, none⟩), .int .i64 (x : Int), v26, v27, v28, v29, v30, v31, v32, v33, rfl, (by simp only [Act.put, List.setIfInBounds_toArray, List.set_cons_zero, List.set_cons_succ]), ⟨_, hB, by simp⟩, h0, h1, h2, h3, h4, h5, h6, h7, h8, h9, Lib.hid (fun _ => rfl), Lib.hid (fun _ => rfl), h12, h13, h14, h15, h16, h17, h18, h19, Lib.hid ⟨(fun _ => rfl), (fun _ => rfl), (fun _ => rfl)⟩, u1_0, u3_2, u5_4, u6_5, u18_6, u8_7, u9_8, u13_9, Lib.hid (fun _ => (by simp only [haf])), Lib.hid (fun _ => rfl), u14_12, u14_13, u15_14, u16_15, u17_16, u18_17⟩
      · -- operation 12
        replace hK := Lib.hid hK
        have hmid0 : b14 = false := by cases hb : b14 with | false => rfl | true => exact absurd (show true = false from (u14_12.out hb).symm.trans hun) (by decide)
        have hmid1 : b15 = false := by cases hb : b15 with | false => rfl | true => exact absurd (show true = false from (u15_14.out hb).symm.trans hmid0) (by decide)
        have hmid2 : b16 = false := by cases hb : b16 with | false => rfl | true => exact absurd (show true = false from (u16_15.out hb).symm.trans hmid1) (by decide)
        have hmid3 : b17 = false := by cases hb : b17 with | false => rfl | true => exact absurd (show true = false from (u17_16.out hb).symm.trans hmid2) (by decide)
        have hmid4 : b18 = false := by cases hb : b18 with | false => rfl | true => exact absurd (show true = false from (u18_17.out hb).symm.trans hmid3) (by decide)
        have hlast : b19 = false := p.out.2.2 hmid4
        clear hmid0 hmid1 hmid2 hmid3 hmid4
        subst hlast
        obtain ⟨Wp, hB, hWp⟩ := hB
        have hWq : W = Wp := by simpa using hWp
        clear hWp
        subst hWq
        have q0 := (HX.out W hB).1
        have q1 := (HX.out W hB).2
        have q2 := HT.out W hB
        obtain rfl := (h11.out (by simp only [haf])).symm
        subst hun
        go_simp
        try rw [kw6]
        exact hK.out _ _ ⟨b0, b1, b2, b3, b4, b5, b6, b7, b8, b9, b10, b11, true, b13, b14, b15, b16, b17, b18, false, v14, v15, v16, v17, v18, v19, v20, v21, v22, v23, v24, .int .i64 (x : Int), .int .i64 (rm : Int), v27, v28, v29, v30, v31, v32, v33, rfl, (by simp only [Act.put, List.setIfInBounds_toArray, List.set_cons_zero, List.set_cons_succ]), ⟨_, hB, by simp⟩, h0, h1, h2, h3, h4, h5, h6, h7, h8, h9, h10, Lib.hid (fun _ => rfl), Lib.hid (fun _ => rfl), h13, h14, h15, h16, h17, h18, h19, Lib.hid ⟨(fun _ => rfl), (fun _ => rfl), (fun _ => rfl)⟩, u1_0, u3_2, u5_4, u6_5, u18_6, u8_7, u9_8, u13_9, u11_10, Lib.hid (fun _ => (by simp only [haf])), Lib.hid (fun _ => rfl), u14_13, u15_14, u16_15, u17_16, u18_17⟩
      · -- operation 13
        replace hK := Lib.hid hK
        have hmid0 : b14 = false := by cases hb : b14 with | false => rfl | true => exact absurd (show true = false from (u14_13.out hb).symm.trans hun) (by decide)
        have hmid1 : b15 = false := by cases hb : b15 with | false => rfl | true => exact absurd (show true = false from (u15_14.out hb).symm.trans hmid0) (by decide)
        have hmid2 : b16 = false := by cases hb : b16 with | false => rfl | true => exact absurd (show true = false from (u16_15.out hb).symm.trans hmid1) (by decide)
        have hmid3 : b17 = false := by cases hb : b17 with | false => rfl | true => exact absurd (show true = false from (u17_16.out hb).symm.trans hmid2) (by decide)
        have hmid4 : b18 = false := by cases hb : b18 with | false => rfl | true => exact absurd (show true = false from (u18_17.out hb).symm.trans hmid3) (by decide)
        have hlast : b19 = false := p.out.2.2 hmid4
        clear hmid0 hmid1 hmid2 hmid3 hmid4
        subst hlast
        obtain ⟨Wp, hB, hWp⟩ := hB
        have hWq : W = Wp := by simpa using hWp
        clear hWp
        subst hWq
        have q0 := (HX.out W hB).1
        have q1 := (HX.out W hB).2
        have q2 := HT.out W hB
        obtain rfl := (h9.out (by simp only [haf])).symm
        subst hun
        go_simp
        exact hK.out _ _ ⟨b0, b1, b2, b3, b4, b5, b6, b7, b8, b9, b10, b11, b12, true, b14, b15, b16, b17, b18, false, v14, v15, v16, v17, v18, v19, v20, v21, v22, .int .i64 (pm : Int), v24, v25, v26, .pointer (some ⟨0, pm * 4, none⟩), v28, v29, v30, v31, v32, v33, rfl, (by simp only [Act.put, List.setIfInBounds_toArray, List.set_cons_zero, List.set_cons_succ]), ⟨_, hB, by simp⟩, h0, h1, h2, h3, h4, h5, h6, h7, h8, Lib.hid (fun _ => rfl), h10, h11, h12, Lib.hid (fun _ => rfl), h14, h15, h16, h17, h18, h19, Lib.hid ⟨(fun _ => rfl), (fun _ => rfl), (fun _ => rfl)⟩, u1_0, u3_2, u5_4, u6_5, u18_6, u8_7, u9_8, Lib.hid (fun _ => (by simp only [haf])), u11_10, u12_11, u14_12, Lib.hid (fun _ => rfl), u15_14, u16_15, u17_16, u18_17⟩
      · -- operation 14
        replace hK := Lib.hid hK
        have hmid0 : b15 = false := by cases hb : b15 with | false => rfl | true => exact absurd (show true = false from (u15_14.out hb).symm.trans hun) (by decide)
        have hmid1 : b16 = false := by cases hb : b16 with | false => rfl | true => exact absurd (show true = false from (u16_15.out hb).symm.trans hmid0) (by decide)
        have hmid2 : b17 = false := by cases hb : b17 with | false => rfl | true => exact absurd (show true = false from (u17_16.out hb).symm.trans hmid1) (by decide)
        have hmid3 : b18 = false := by cases hb : b18 with | false => rfl | true => exact absurd (show true = false from (u18_17.out hb).symm.trans hmid2) (by decide)
        have hlast : b19 = false := p.out.2.2 hmid3
        clear hmid0 hmid1 hmid2 hmid3
        subst hlast
        obtain ⟨Wp, hB, hWp⟩ := hB
        have hWq : W = Wp := by simpa using hWp
        clear hWp
        subst hWq
        have q0 := (HX.out W hB).1
        have q1 := (HX.out W hB).2
        have q2 := HT.out W hB
        obtain rfl := (h12.out (by simp only [haf])).symm
        obtain rfl := (h13.out (by simp only [haf])).symm
        subst hun
        go_simp
        exact hK.out _ _ ⟨b0, b1, b2, b3, b4, b5, b6, b7, b8, b9, b10, b11, b12, b13, true, b15, b16, b17, b18, false, v14, v15, v16, v17, v18, v19, v20, v21, v22, v23, v24, v25, .int .i64 (rm : Int), .pointer (some ⟨0, pm * 4, none⟩), .pointer (some ⟨0, pm * 4 + rm, none⟩), v29, v30, v31, v32, v33, rfl, (by simp only [Act.put, List.setIfInBounds_toArray, List.set_cons_zero, List.set_cons_succ]), ⟨_, hB, by simp⟩, h0, h1, h2, h3, h4, h5, h6, h7, h8, h9, h10, h11, Lib.hid (fun _ => rfl), Lib.hid (fun _ => rfl), Lib.hid (fun _ => rfl), h15, h16, h17, h18, h19, Lib.hid ⟨(fun _ => rfl), (fun _ => rfl), (fun _ => rfl)⟩, u1_0, u3_2, u5_4, u6_5, u18_6, u8_7, u9_8, u13_9, u11_10, u12_11, Lib.hid (fun _ => (by simp only [haf])), Lib.hid (fun _ => (by simp only [haf])), Lib.hid (fun _ => rfl), u16_15, u17_16, u18_17⟩
      · -- operation 15
        replace hK := Lib.hid hK
        have hmid0 : b16 = false := by cases hb : b16 with | false => rfl | true => exact absurd (show true = false from (u16_15.out hb).symm.trans hun) (by decide)
        have hmid1 : b17 = false := by cases hb : b17 with | false => rfl | true => exact absurd (show true = false from (u17_16.out hb).symm.trans hmid0) (by decide)
        have hmid2 : b18 = false := by cases hb : b18 with | false => rfl | true => exact absurd (show true = false from (u18_17.out hb).symm.trans hmid1) (by decide)
        have hlast : b19 = false := p.out.2.2 hmid2
        clear hmid0 hmid1 hmid2
        subst hlast
        obtain ⟨Wp, hB, hWp⟩ := hB
        have hWq : W = Wp := by simpa using hWp
        clear hWp
        subst hWq
        have q0 := (HX.out W hB).1
        have q1 := (HX.out W hB).2
        have q2 := HT.out W hB
        obtain rfl := (h14.out (by simp only [haf])).symm
        subst hun
        go_simp
        exact hK.out _ _ ⟨b0, b1, b2, b3, b4, b5, b6, b7, b8, b9, b10, b11, b12, b13, b14, true, b16, b17, b18, false, v14, v15, v16, v17, v18, v19, v20, v21, v22, v23, v24, v25, v26, v27, .pointer (some ⟨0, pm * 4 + rm, none⟩), .int .i64 tb, v30, v31, v32, v33, rfl, (by simp only [Act.put, List.setIfInBounds_toArray, List.set_cons_zero, List.set_cons_succ]), ⟨_, hB, by simp⟩, h0, h1, h2, h3, h4, h5, h6, h7, h8, h9, h10, h11, h12, h13, Lib.hid (fun _ => rfl), Lib.hid (fun _ => rfl), h16, h17, h18, h19, Lib.hid ⟨(fun _ => rfl), (fun _ => rfl), (fun _ => rfl)⟩, u1_0, u3_2, u5_4, u6_5, u18_6, u8_7, u9_8, u13_9, u11_10, u12_11, u14_12, u14_13, Lib.hid (fun _ => (by simp only [haf])), Lib.hid (fun _ => rfl), u17_16, u18_17⟩
      · -- operation 16
        replace hK := Lib.hid hK
        have hmid0 : b17 = false := by cases hb : b17 with | false => rfl | true => exact absurd (show true = false from (u17_16.out hb).symm.trans hun) (by decide)
        have hmid1 : b18 = false := by cases hb : b18 with | false => rfl | true => exact absurd (show true = false from (u18_17.out hb).symm.trans hmid0) (by decide)
        have hlast : b19 = false := p.out.2.2 hmid1
        clear hmid0 hmid1
        subst hlast
        obtain ⟨Wp, hB, hWp⟩ := hB
        have hWq : W = Wp := by simpa using hWp
        clear hWp
        subst hWq
        have q0 := (HX.out W hB).1
        have q1 := (HX.out W hB).2
        have q2 := HT.out W hB
        obtain rfl := (h15.out (by simp only [haf])).symm
        subst hun
        go_simp
        exact hK.out _ _ ⟨b0, b1, b2, b3, b4, b5, b6, b7, b8, b9, b10, b11, b12, b13, b14, b15, true, b17, b18, false, v14, v15, v16, v17, v18, v19, v20, v21, v22, v23, v24, v25, v26, v27, v28, .int .i64 tb, .int .i64 (100 * tb), v31, v32, v33, rfl, (by simp only [Act.put, List.setIfInBounds_toArray, List.set_cons_zero, List.set_cons_succ]), ⟨_, hB, by simp⟩, h0, h1, h2, h3, h4, h5, h6, h7, h8, h9, h10, h11, h12, h13, h14, Lib.hid (fun _ => rfl), Lib.hid (fun _ => rfl), h17, h18, h19, Lib.hid ⟨(fun _ => rfl), (fun _ => rfl), (fun _ => rfl)⟩, u1_0, u3_2, u5_4, u6_5, u18_6, u8_7, u9_8, u13_9, u11_10, u12_11, u14_12, u14_13, u15_14, Lib.hid (fun _ => (by simp only [haf])), Lib.hid (fun _ => rfl), u18_17⟩
      · -- operation 17
        replace hK := Lib.hid hK
        have hmid0 : b18 = false := by cases hb : b18 with | false => rfl | true => exact absurd (show true = false from (u18_17.out hb).symm.trans hun) (by decide)
        have hlast : b19 = false := p.out.2.2 hmid0
        clear hmid0
        subst hlast
        obtain ⟨Wp, hB, hWp⟩ := hB
        have hWq : W = Wp := by simpa using hWp
        clear hWp
        subst hWq
        have q0 := (HX.out W hB).1
        have q1 := (HX.out W hB).2
        have q2 := HT.out W hB
        obtain rfl := (h16.out (by simp only [haf])).symm
        subst hun
        go_simp
        exact hK.out _ _ ⟨b0, b1, b2, b3, b4, b5, b6, b7, b8, b9, b10, b11, b12, b13, b14, b15, b16, true, b18, false, v14, v15, v16, v17, v18, v19, v20, v21, v22, v23, v24, v25, v26, v27, v28, v29, .int .i64 (100 * tb), .int .i64 (100 * tb + 50), v32, v33, rfl, (by simp only [Act.put, List.setIfInBounds_toArray, List.set_cons_zero, List.set_cons_succ]), ⟨_, hB, by simp⟩, h0, h1, h2, h3, h4, h5, h6, h7, h8, h9, h10, h11, h12, h13, h14, h15, Lib.hid (fun _ => rfl), Lib.hid (fun _ => rfl), h18, h19, Lib.hid ⟨(fun _ => rfl), (fun _ => rfl), (fun _ => rfl)⟩, u1_0, u3_2, u5_4, u6_5, u18_6, u8_7, u9_8, u13_9, u11_10, u12_11, u14_12, u14_13, u15_14, u16_15, Lib.hid (fun _ => (by simp only [haf])), Lib.hid (fun _ => rfl)⟩
      · -- operation 18
        replace hK := Lib.hid hK
        have hlast : b19 = false := p.out.2.2 hun
        subst hlast
        obtain ⟨Wp, hB, hWp⟩ := hB
        have hWq : W = Wp := by simpa using hWp
        clear hWp
        subst hWq
        have q0 := (HX.out W hB).1
        have q1 := (HX.out W hB).2
        have q2 := HT.out W hB
        obtain rfl := (h6.out (by simp only [haf])).symm
        obtain rfl := (h17.out (by simp only [haf])).symm
        subst hun
        go_simp
        exact hK.out _ _ ⟨b0, b1, b2, b3, b4, b5, b6, b7, b8, b9, b10, b11, b12, b13, b14, b15, b16, b17, true, false, v14, v15, v16, v17, v18, v19, .int .i64 (16 * z + 8), v21, v22, v23, v24, v25, v26, v27, v28, v29, v30, .int .i64 (100 * tb + 50), .bool c, v33, rfl, (by simp only [Act.put, List.setIfInBounds_toArray, List.set_cons_zero, List.set_cons_succ]), ⟨_, hB, by simp⟩, h0, h1, h2, h3, h4, h5, Lib.hid (fun _ => rfl), h7, h8, h9, h10, h11, h12, h13, h14, h15, h16, Lib.hid (fun _ => rfl), Lib.hid (fun _ => rfl), h19, Lib.hid ⟨(fun _ => rfl), (fun _ => rfl), (fun hf => by cases hf)⟩, u1_0, u3_2, u5_4, u6_5, Lib.hid (fun _ => (by simp only [haf])), u8_7, u9_8, u13_9, u11_10, u12_11, u14_12, u14_13, u15_14, u16_15, u17_16, Lib.hid (fun _ => (by simp only [haf]))⟩
      · -- operation 19
        replace hK := Lib.hid hK
        subst hun
        obtain ⟨Wp, hB, hWp⟩ := hB
        have hWq : W = Wp := by simpa using hWp
        clear hWp
        subst hWq
        have q0 := (HX.out W hB).1
        have q1 := (HX.out W hB).2
        have q2 := HT.out W hB
        obtain rfl := (h1.out (by simp only [haf])).symm
        obtain rfl := (h3.out (by simp only [haf])).symm
        obtain rfl := (h18.out (by simp only [haf])).symm
        go_simp
        refine ⟨trivial, ?_⟩
        refine (CallsIn.inRound l (callsIn_wide.2 (CSt.out W hB))).mono ?_
        rintro e W' ⟨rfl, hset⟩
        exact hK.out _ _ ⟨b0, b1, b2, b3, b4, b5, b6, b7, b8, b9, b10, b11, b12, b13, b14, b15, b16, b17, b18, true, v14, .int .i64 (x : Int), v16, .int .i64 (y : Int), v18, v19, v20, v21, v22, v23, v24, v25, v26, v27, v28, v29, v30, v31, .bool c, .tuple #[], rfl, (by simp only [Act.put, List.setIfInBounds_toArray, List.set_cons_zero, List.set_cons_succ]), ⟨_, hB, by simpa using hset⟩, h0, Lib.hid (fun _ => rfl), h2, Lib.hid (fun _ => rfl), h4, h5, h6, h7, h8, h9, h10, h11, h12, h13, h14, h15, h16, h17, Lib.hid (fun _ => rfl), Lib.hid (fun _ => rfl), Lib.hid ⟨(fun hf => absurd (show false = true from hf.symm.trans (by simp only [haf])) (by decide)), (fun hf => absurd (show false = true from hf.symm.trans (by simp only [haf])) (by decide)), (fun hf => absurd (show false = true from hf.symm.trans (by simp only [haf])) (by decide))⟩, u1_0, u3_2, u5_4, u6_5, u18_6, u8_7, u9_8, u13_9, u11_10, u12_11, u14_12, u14_13, u15_14, u16_15, u17_16, u18_17⟩
    intro L A W hI hr
    refine hI.elim fun b0 e0_ => e0_.elim fun b1 e1_ => e1_.elim fun b2 e2_ => e2_.elim fun b3 e3_ => e3_.elim fun b4 e4_ => e4_.elim fun b5 e5_ => e5_.elim fun b6 e6_ => e6_.elim fun b7 e7_ => e7_.elim fun b8 e8_ => e8_.elim fun b9 e9_ => e9_.elim fun b10 e10_ => e10_.elim fun b11 e11_ => e11_.elim fun b12 e12_ => e12_.elim fun b13 e13_ => e13_.elim fun b14 e14_ => e14_.elim fun b15 e15_ => e15_.elim fun b16 e16_ => e16_.elim fun b17 e17_ => e17_.elim fun b18 e18_ => e18_.elim fun b19 e19_ => e19_.elim fun v14 e20_ => e20_.elim fun v15 e21_ => e21_.elim fun v16 e22_ => e22_.elim fun v17 e23_ => e23_.elim fun v18 e24_ => e24_.elim fun v19 e25_ => e25_.elim fun v20 e26_ => e26_.elim fun v21 e27_ => e27_.elim fun v22 e28_ => e28_.elim fun v23 e29_ => e29_.elim fun v24 e30_ => e30_.elim fun v25 e31_ => e31_.elim fun v26 e32_ => e32_.elim fun v27 e33_ => e33_.elim fun v28 e34_ => e34_.elim fun v29 e35_ => e35_.elim fun v30 e36_ => e36_.elim fun v31 e37_ => e37_.elim fun v32 e38_ => e38_.elim fun v33 e39_ => e39_.elim fun hLq e40_ => e40_.elim fun hAq e41_ => e41_.elim fun hB e42_ => e42_.elim fun h0 e43_ => e43_.elim fun h1 e44_ => e44_.elim fun h2 e45_ => e45_.elim fun h3 e46_ => e46_.elim fun h4 e47_ => e47_.elim fun h5 e48_ => e48_.elim fun h6 e49_ => e49_.elim fun h7 e50_ => e50_.elim fun h8 e51_ => e51_.elim fun h9 e52_ => e52_.elim fun h10 e53_ => e53_.elim fun h11 e54_ => e54_.elim fun h12 e55_ => e55_.elim fun h13 e56_ => e56_.elim fun h14 e57_ => e57_.elim fun h15 e58_ => e58_.elim fun h16 e59_ => e59_.elim fun h17 e60_ => e60_.elim fun h18 e61_ => e61_.elim fun h19 e62_ => e62_.elim fun p e63_ => e63_.elim fun u1_0 e64_ => e64_.elim fun u3_2 e65_ => e65_.elim fun u5_4 e66_ => e66_.elim fun u6_5 e67_ => e67_.elim fun u18_6 e68_ => e68_.elim fun u8_7 e69_ => e69_.elim fun u9_8 e70_ => e70_.elim fun u13_9 e71_ => e71_.elim fun u11_10 e72_ => e72_.elim fun u12_11 e73_ => e73_.elim fun u14_12 e74_ => e74_.elim fun u14_13 e75_ => e75_.elim fun u15_14 e76_ => e76_.elim fun u16_15 e77_ => e77_.elim fun u17_16 u18_17 => ?_
    clear hI e0_ e1_ e2_ e3_ e4_ e5_ e6_ e7_ e8_ e9_ e10_ e11_ e12_ e13_ e14_ e15_ e16_ e17_ e18_ e19_ e20_ e21_ e22_ e23_ e24_ e25_ e26_ e27_ e28_ e29_ e30_ e31_ e32_ e33_ e34_ e35_ e36_ e37_ e38_ e39_ e40_ e41_ e42_ e43_ e44_ e45_ e46_ e47_ e48_ e49_ e50_ e51_ e52_ e53_ e54_ e55_ e56_ e57_ e58_ e59_ e60_ e61_ e62_ e63_ e64_ e65_ e66_ e67_ e68_ e69_ e70_ e71_ e72_ e73_ e74_ e75_ e76_ e77_
    subst hLq
    subst hAq
    have d0 := ready_done hr 0 _ rfl (by simp [Region.binds])
    simp at d0
    subst d0
    have d1 := ready_done hr 1 _ rfl (by simp [Region.binds])
    simp at d1
    subst d1
    have d2 := ready_done hr 2 _ rfl (by simp [Region.binds])
    simp at d2
    subst d2
    have d3 := ready_done hr 3 _ rfl (by simp [Region.binds])
    simp at d3
    subst d3
    have d4 := ready_done hr 4 _ rfl (by simp [Region.binds])
    simp at d4
    subst d4
    have d5 := ready_done hr 5 _ rfl (by simp [Region.binds])
    simp at d5
    subst d5
    have d6 := ready_done hr 6 _ rfl (by simp [Region.binds])
    simp at d6
    subst d6
    have d7 := ready_done hr 7 _ rfl (by simp [Region.binds])
    simp at d7
    subst d7
    have d8 := ready_done hr 8 _ rfl (by simp [Region.binds])
    simp at d8
    subst d8
    have d9 := ready_done hr 9 _ rfl (by simp [Region.binds])
    simp at d9
    subst d9
    have d10 := ready_done hr 10 _ rfl (by simp [Region.binds])
    simp at d10
    subst d10
    have d11 := ready_done hr 11 _ rfl (by simp [Region.binds])
    simp at d11
    subst d11
    have d12 := ready_done hr 12 _ rfl (by simp [Region.binds])
    simp at d12
    subst d12
    have d13 := ready_done hr 13 _ rfl (by simp [Region.binds])
    simp at d13
    subst d13
    have d14 := ready_done hr 14 _ rfl (by simp [Region.binds])
    simp at d14
    subst d14
    have d15 := ready_done hr 15 _ rfl (by simp [Region.binds])
    simp at d15
    subst d15
    have d16 := ready_done hr 16 _ rfl (by simp [Region.binds])
    simp at d16
    subst d16
    have d17 := ready_done hr 17 _ rfl (by simp [Region.binds])
    simp at d17
    subst d17
    have d18 := ready_done hr 18 _ rfl (by simp [Region.binds])
    simp at d18
    subst d18
    have d19 := ready_done hr 19 _ rfl (by simp [Region.binds])
    simp at d19
    subst d19
    obtain rfl := (h0.out rfl).symm
    obtain rfl := (h1.out rfl).symm
    obtain rfl := (h2.out rfl).symm
    obtain rfl := (h3.out rfl).symm
    obtain rfl := (h4.out rfl).symm
    obtain rfl := (h5.out rfl).symm
    obtain rfl := (h6.out rfl).symm
    obtain rfl := (h7.out rfl).symm
    obtain rfl := (h8.out rfl).symm
    obtain rfl := (h9.out rfl).symm
    obtain rfl := (h10.out rfl).symm
    obtain rfl := (h11.out rfl).symm
    obtain rfl := (h12.out rfl).symm
    obtain rfl := (h13.out rfl).symm
    obtain rfl := (h14.out rfl).symm
    obtain rfl := (h15.out rfl).symm
    obtain rfl := (h16.out rfl).symm
    obtain rfl := (h17.out rfl).symm
    obtain rfl := (h18.out rfl).symm
    obtain rfl := (h19.out rfl).symm
    obtain ⟨Wp, hB, hWp⟩ := hB
    have hSet : SetX Wp W m5 (rowF gs 0).length gs.length (dnG (odF gs) pre) y x c := by simpa using hWp
    clear hWp
    simp only [Act.put, List.setIfInBounds_toArray, List.set_cons_zero, List.set_cons_succ]
    clear hr h0 h1 h2 h3 h4 h5 h6 h7 h8 h9 h10 h11 h12 h13 h14 h15 h16 h17 h18 h19 p u1_0 u3_2 u5_4 u6_5 u18_6 u8_7 u9_8 u13_9 u11_10 u12_11 u14_12 u14_13 u15_14 u16_15 u17_16 u18_17
    have KO : ∀ k, k ≠ m5 → k < WB.heap.size → W.heap[k]? = WB.heap[k]? := fun k hk hlt => (hSet.2.2.1 k hk).trans (hB.block k hlt)
    gi_wp2
    refine ⟨by first | rfl | trivial, ⟨by rw [hSet.2.2.2]; exact hB.size, fun k o hk hko _ => (KO k (by omega) (Array.getElem?_eq_some_iff.1 hko).1).trans hko⟩, ⟨by rw [hSet.2.2.2]; exact hB.size, fun k o hk _ hko => (KO k hk (Array.getElem?_eq_some_iff.1 hko).1).trans hko⟩, ⟨⟨by rw [HSn.out]; exact hSet.1, (KO _ (by omega) GR.out.lt).trans GR.out⟩, (GB.out.trans (hB.mono hl0)).trans (hSet.2.1.mono (by omega))⟩⟩
  case done =>
    rintro D ys W hD rfl ⟨⟨b5, br⟩, hB⟩ hK
    have hb2 := Lib.hid br
    have hBW := Lib.hid hB
    have HKK := Lib.hid hK
    have hIm : Hid ((Tryd.prog.info? 63).map (·.size) = some (mat (rowF gs 0).length gs.length (dnG (odF gs) ((gGrid (rowF gs 0).length gs.length V.w1 V.n1).list (gs.length * (rowF gs 0).length)))).size) := infoM
    obtain ⟨P2, hP2⟩ : ∃ P, mat (rowF gs 0).length gs.length (dnG (odF gs) ((gGrid (rowF gs 0).length gs.length V.w1 V.n1).list (gs.length * (rowF gs 0).length))) = P := ⟨_, rfl⟩
    rw [hP2] at CPi hIm b5
    have h5 : Hid (Blk W m5 P2 63) := b5
    obtain ⟨pic, hpic⟩ : ∃ p, mkPic (rowF gs 0).length gs.length (odF gs) = p := ⟨_, rfl⟩
    have HPq := Lib.hid hpic
    rw [hpic] at CPi
    unfold TookPic at CPi
    clear b5 br hP2 hpic hK hB hS hR3 hB3 b2
    gi_wp2_with (first | (refine wpListIn_load_row rfl 63 _ rfl m5 rfl 63 P2 (0, 0) _ h5.out Tryd.underlying63 rfl hIm.out ?_) | (refine ⟨trivial, ?_⟩; gi_at_call 44; refine (callsIn_wide.2 (CPi.out _)).mono ?_; rintro e w7 ⟨g7, cap7, rfl, hown7, hb7⟩; refine Hid.out ?_))
    have e2 := (hb2.out).below hb7
    have hfr : w7.frozen? ⟨w.heap.size, 0, none⟩ = false := free_of_one e2
    have hc2 : w7.cell? ⟨w.heap.size, 0, none⟩ = some (.slice none 0 0) := cell_of_one e2
    have hK7 : w7.heap[D]? = some (.deferred (some [])) := (hb7.block _ (Array.getElem?_eq_some_iff.1 HKK.out).1).trans HKK.out
    have HK7 := Lib.hid hK7
    have O7 := Lib.hid (own_set (u := .slice (some ⟨g7, 0, none⟩) pic.length cap7) hown7 e2 (by decide))
    have P7 := Lib.hid (one_setCell (u := .slice (some ⟨g7, 0, none⟩) pic.length cap7) e2)
    have B7 := Lib.hid (hBW.out.trans (hb7.mono hBW.out.size))
    have hs7 := hBW.out.size
    clear hown7 hb7 hK7 e2
    refine Lib.hid ?_
    gi_wp2
    have hK' : (w7.setCell ⟨w.heap.size, 0, none⟩ (.slice (some ⟨g7, 0, none⟩) pic.length cap7)).heap[D]? = some (.deferred (some [])) := (KeepsOthers.setCell w7 _ _).same D _ HK7.out rfl
    have hR : ((w7.setCell ⟨w.heap.size, 0, none⟩ (.slice (some ⟨g7, 0, none⟩) pic.length cap7)).putObj D (.deferred none)).heap[w.heap.size]? = some (.cells #[.slice (some ⟨g7, 0, none⟩) pic.length cap7] 26 (0, 0)) := by
      rw [World.putObj_heap_other (by omega)]
      exact P7.out
    rw [HPq.out]
    refine ⟨by simp, .inl ⟨_, _, rfl, run_takeDeferred hK', ?_⟩⟩
    refine ⟨_, results_cell1 (p := 1) (ty := 26) Tryd.results73 _ _ w.heap.size 26 #[.slice (some ⟨g7, 0, none⟩) pic.length cap7] (0, 0) _ rfl hR Tryd.underlying26 rfl (by kernel_rfl), g7, cap7, rfl, ?_, ?_⟩
    · exact ownsRow_putObj (Joins.ownsRow_le O7.out hs7) _ hK' rfl
    · exact (B7.out.setCell (p := ⟨w.heap.size, 0, none⟩) (by show w.heap.size ≤ w.heap.size; omega) _).trans (belowK_b (w := w) (Nat.le_refl _) _ D _ _ (by omega) hK' rfl rfl)

set_option maxHeartbeats 2000000 in
set_option maxRecDepth 100000 in
theorem ordWork_no (gb : Nat) (v : Value) (gs : List (List Int)) (w : World) (hN : gs.length ≤ 1048576) (hf : ∀ i, i < gs.length → (rowF gs i).length ≤ 1048576) (hv : SlG w v gs) (hr : NoRes w) (hg : w.cell? ⟨gb, 0, none⟩ = some v) (hok : vG 99 gs = false) :
    Calls Tryd.prog 73 #[.pointer (some ⟨gb, 0, none⟩)] w (fun e w' => (∃ T x, e = .panicked [{ v := .iface T x, recovered := false }]) ∧ Below w.heap.size w w') := by
  have hb0 := Joins.below_alloc1 w (.cells #[.slice none 0 0] 26)
  obtain ⟨W0, hW0⟩ : ∃ W0, w.alloc (.cells #[.slice none 0 0] 26) = W0 := ⟨_, rfl⟩
  rw [hW0] at hb0
  have HW0 := Lib.hid hW0
  have HB0 := Lib.hid hb0
  have c2 := cell_kept hb0 hg
  have CG : Hid (Calls Tryd.prog 67 #[.agg #[v]] W0 (fun e w' => (∃ T x, e = .panicked [{ v := .iface T x, recovered := false }]) ∧ Below W0.heap.size W0 w')) := (requiredGrey_any v gs W0 hN hf (hv.below hb0) (hr.below hb0)).mono fun e w' h => by
    rcases h.1 with ⟨h1, _⟩ | ⟨_, h1⟩
    · rw [hok] at h1; cases h1
    · exact ⟨h1, h.2⟩
  clear hb0 hv hr hf hg hW0 hok
  go_enter Tryd.func73, Tryd.ntmps73
  go_upto_region 1 with fail
  rw [HW0.out]
  go_wp2_with fail
  refine CG.out.mono ?_
  rintro e w4 ⟨⟨T, x, rfl⟩, hb4⟩
  have HB4 := Lib.hid (HB0.out.trans (hb4.mono HB0.out.size))
  clear hb4
  go_wp2
  exact ⟨rfl, ⟨T, x, rfl⟩, HB4.out⟩

set_option maxHeartbeats 2000000 in
set_option maxRecDepth 100000 in
theorem impl_Ordered (v : Value) (gs : List (List Int)) (w : World) (hN : gs.length ≤ 1048576) (hf : ∀ i, i < gs.length → (rowF gs i).length ≤ 1048576) (hv : SlG w v gs) (hr : NoRes w) (hP : PlcP w) :
    Calls Tryd.prog 29 #[.agg #[v]] w (SaysPic (odP gs) (vG 99 gs) w) := by
  have hmf : ∀ (fn : Fn) (first cap : Array Value) (w : World), (Instr.makeFunc fn first cap).run Tryd.prog w = .ok (.func fn first cap) w := fun _ _ _ _ => rfl
  obtain ⟨W0, hW0⟩ : ∃ W0, (w.alloc (.cells #[v] 35)).alloc (.cells #[.slice none 0 0] 26) = W0 := ⟨_, rfl⟩
  have hs0 : W0.heap.size = w.heap.size + 1 + 1 := by rw [← hW0]; simp
  have hb0 : Below w.heap.size w W0 := by rw [← hW0]; exact Joins.below_alloc2 _ _ _
  have p0 : W0.heap[w.heap.size]? = some (.cells #[v] 35 (0, 0)) := by
    rw [← hW0, Below.heap_alloc _ _ _ (by first | (simp; done) | (simp; omega))]; exact heap_alloc_last w _
  have p2 : W0.heap[w.heap.size + 1]? = some (.cells #[.slice none 0 0] 26 (0, 0)) := by
    rw [← hW0]
    exact heap_alloc2_new _ _ _
  have HW := Lib.hid hW0
  have HB0 := Lib.hid hb0
  have KR : Hid (∀ W, Below W0.heap.size W0 W → W.heap[w.heap.size + 1]? = some (.cells #[.slice none 0 0] 26 (0, 0))) := fun W hb => (hb.block _ (by omega)).trans p2
  cases hok : vG 99 gs with
  | false =>
    have e1 : Hid (odP gs = []) := odP_no hok
    have C := Lib.hid (attemptPi_no 73 #[.pointer (some ⟨w.heap.size, 0, none⟩)] W0 call_Ordered1 (fun W hb => ordWork_no w.heap.size v gs W hN hf ((hv.below hb0).below hb) ((hr.below hb0).below hb) (cell_kept hb (cell_of_one p0)) hok))
    rw [e1.out]
    clear hv hP hr hf hok e1 p0 p2 hb0 hW0 hs0
    go_enter Tryd.func29, Tryd.ntmps29
    go_upto_region 1 with fail
    rw [HW.out]
    go_wp2_with fail
    refine C.out.mono ?_
    rintro e w1 ⟨rfl, hb1⟩
    have hp1 := KR.out _ hb1
    have hfr : w1.frozen? ⟨w.heap.size + 1, 0, none⟩ = false := free_of_one hp1
    have hc2 : w1.cell? ⟨w.heap.size + 1, 0, none⟩ = some (.slice none 0 0) := cell_of_one hp1
    have B1 : Hid (Below w.heap.size w w1) := HB0.out.trans (hb1.mono HB0.out.size)
    have P1 := Lib.hid hp1
    clear hb1 hp1
    go_wp2_with fail
    refine bodyPost_ret (v := .tuple #[.agg #[.slice none 0 0], .bool false]) (by simp [results, Tryd.results29, go_sem, cell_of_one (one_setCell P1.out)]) rfl ⟨_, _, _, rfl, World.ownsRow_nil _ _ _ _, B1.out.setCell (by show w.heap.size ≤ w.heap.size + 1; omega) _⟩
  | true =>
    have e1 : Hid (odP gs = mkPic (rowF gs 0).length gs.length (odF gs)) := odP_yes hok
    have hle0 := hb0.size
    have C := Lib.hid (attemptPi_yes 73 #[.pointer (some ⟨w.heap.size, 0, none⟩)] W0 (fun u W w' => Below W0.heap.size W0 W → ∃ g c, u = .agg #[.slice (some ⟨g, 0, none⟩) (mkPic (rowF gs 0).length gs.length (odF gs)).length c] ∧ OwnP w' W.heap.size (.slice (some ⟨g, 0, none⟩) (mkPic (rowF gs 0).length gs.length (odF gs)).length c) (mkPic (rowF gs 0).length gs.length (odF gs))) call_Ordered1 (fun W hb => (ordWork_yes w.heap.size v gs W hN hf ((hv.below hb0).below hb) ((hr.below hb0).below hb) ((hP.below hb0).below hb) ((hb.block _ (by omega)).trans p0) hok).mono fun e w' ⟨g, c, h1, h2, h3⟩ => ⟨_, _, _, h1, fun _ => ⟨g, c, rfl, h2⟩, h3⟩))
    rw [e1.out]
    obtain ⟨pic, hpic⟩ : ∃ p, mkPic (rowF gs 0).length gs.length (odF gs) = p := ⟨_, rfl⟩
    rw [hpic] at C ⊢
    clear hv hP hr hf hok e1 p0 p2 hb0 hW0 hpic
    go_enter Tryd.func29, Tryd.ntmps29
    go_upto_region 1 with fail
    rw [HW.out]
    go_wp2_with fail
    refine C.out.mono ?_
    rintro e w9 ⟨a5, n5, c5, w1, rfl, hQ, hb1, rfl, hr1, hr2⟩
    obtain ⟨g, c, hu, hown⟩ := hQ (Joins.below_alloc2 _ _ _)
    injection hu with hu
    have hu2 : Value.slice a5 n5 c5 = .slice (some ⟨g, 0, none⟩) pic.length c := by
      have := congrArg (fun a : Array Value => a[0]?) hu
      simpa using this
    injection hu2 with h1 h2 h3
    subst h1 h2 h3
    have hr3 : (w1.setCell ⟨W0.heap.size, 0, none⟩ (.slice (some ⟨g, 0, none⟩) pic.length c5)).heap[W0.heap.size + 1]? = some (.cells #[.bool false] 4 (0, 0)) := (Below.heap_setCell _ _ _ _ (by simp)).trans hr2
    have o1 := own_set (u := .slice (some ⟨g, 0, none⟩) pic.length c5) hown hr1 (by decide)
    have o2 := own_set (u := .bool true) o1 hr3 (by decide)
    have hbe : Below W0.heap.size W0 ((w1.setCell ⟨W0.heap.size, 0, none⟩ (.slice (some ⟨g, 0, none⟩) pic.length c5)).setCell ⟨W0.heap.size + 1, 0, none⟩ (.bool true)) := (hb1.setCell (by simp) _).setCell (by simp) _
    have o3 : OwnP _ _ _ _ := OwnP.mono o2 (show w.heap.size ≤ _ by simp; omega)
    obtain ⟨W9, hW9⟩ : ∃ W9, ((w1.setCell ⟨W0.heap.size, 0, none⟩ (.slice (some ⟨g, 0, none⟩) pic.length c5)).setCell ⟨W0.heap.size + 1, 0, none⟩ (.bool true)) = W9 := ⟨_, rfl⟩
    rw [hW9] at hbe o3 ⊢
    have hp1 := KR.out _ hbe
    have hfr : W9.frozen? ⟨w.heap.size + 1, 0, none⟩ = false := free_of_one hp1
    have hc2 : W9.cell? ⟨w.heap.size + 1, 0, none⟩ = some (.slice none 0 0) := cell_of_one hp1
    have O2 := Lib.hid (own_set (u := .slice (some ⟨g, 0, none⟩) pic.length c5) o3 hp1 (by decide))
    have P5 := Lib.hid hp1
    have B5 := Lib.hid (HB0.out.trans (hbe.mono HB0.out.size))
    clear hQ hb1 hr1 hr2 hown hu hr3 o1 o2 hbe o3 hW9 hp1
    go_wp2_with fail
    refine bodyPost_ret (v := .tuple #[.agg #[.slice (some ⟨g, 0, none⟩) pic.length c5], .bool true]) (by simp [results, Tryd.results29, go_sem, cell_of_one (one_setCell P5.out)]) rfl ⟨_, _, _, rfl, O2.out, B5.out.setCell (by show w.heap.size ≤ w.heap.size + 1; omega) _⟩
end Go.Proofs.YtnmnlbgialolhaaDoor
