/- Contracts of single functions, and plain lemmas, on which the exact laws of this seat rest; each holds under the conditions that it states. -/
import Derived.Test.YtenbhnfajjknkaaDoorPb
import Derived.Test.YtenbhnfajjknkaaDoorW4
import Derived.Test.YtenbhnfajjknkaaDoorKa
import Derived.Test.YtenbhnfajjknkaaDoorLk
namespace Go.Proofs.YtenbhnfajjknkaaDoor
set_option linter.unusedVariables false
set_option linter.unusedSimpArgs false
open Go.RowKit

/-! ### a picture that is made of a function -/
theorem rowOf_size (f : Nat → Bool) (n : Nat) : (rowOf f n).size = n := by simp [rowOf, ByteArray.size, mkRow]
theorem rowOf_get (f : Nat → Bool) (n x : Nat) (h : x < (rowOf f n).size) : (rowOf f n)[x]'h = if f x = true then 35 else 46 := by
  have hx : x < n := by rwa [rowOf_size] at h
  have : (rowOf f n)[x]'h = (mkRow f n)[x]'(by rw [mkRow_len]; exact hx) := by
    simp [rowOf, ByteArray.getElem_eq_getElem_data]
  rw [this]
  simp [mkRow]
theorem mkPic_getD (wd h : Nat) (f : Nat → Nat → Bool) {y : Nat} (hy : y < h) : (mkPic wd h f).getD y ByteArray.empty = rowOf (f y) wd := by
  simp [mkPic, List.getD, hy]
theorem mkPic_row0 (wd h : Nat) (f : Nat → Nat → Bool) (hh : 1 ≤ h) : (row0 (mkPic wd h f)).size = wd := by
  show ((mkPic wd h f).getD 0 ByteArray.empty).size = wd
  rw [mkPic_getD wd h f (by omega), rowOf_size]
theorem mkPic_pix (wd h : Nat) (f : Nat → Nat → Bool) {y x : Nat} (hy : y < h) (hx : x < wd) : pixF (mkPic wd h f) y x = f y x := by
  unfold pixF
  rw [mkPic_getD wd h f hy, blackAt_eq _ _ (by rw [rowOf_size]; exact hx), rowOf_get]
  cases f y x <;> rfl
theorem mkPic_valid (wd h : Nat) (f : Nat → Nat → Bool) (hw : 1 ≤ wd ∧ wd ≤ 16) (hh : 1 ≤ h ∧ h ≤ 16) : validB (mkPic wd h f) = true := by
  unfold validB
  simp only [Bool.and_eq_true, decide_eq_true_eq, mkPic_len, mkPic_row0 wd h f hh.1]
  refine ⟨⟨⟨⟨hh.1, hh.2⟩, hw.1⟩, hw.2⟩, ?_⟩
  rw [List.all_eq_true]
  intro s hs
  obtain ⟨y, hy, rfl⟩ := List.mem_iff_getElem.1 hs
  rw [mkPic_len] at hy
  have e : (mkPic wd h f)[y] = rowOf (f y) wd := by simp [mkPic]
  rw [e]
  unfold rowB
  simp only [Bool.and_eq_true, decide_eq_true_eq]
  refine ⟨rowOf_size _ _, ?_⟩
  rw [List.all_eq_true]
  intro c hc
  have hc' : c ∈ mkRow (f y) wd := by simpa [rowOf] using hc
  obtain ⟨x, hx, rfl⟩ := List.mem_iff_getElem.1 hc'
  simp only [mkRow, List.getElem_map, List.getElem_range]
  cases f y x <;> decide
end Go.Proofs.YtenbhnfajjknkaaDoor

/- Contracts of single functions, and plain lemmas, on which the exact laws of this seat rest; each holds under the conditions that it states. -/
namespace Go.Proofs.YtenbhnfajjknkaaDoor
set_option linter.unusedVariables false
set_option linter.unusedSimpArgs false
open Go.RowKit

theorem pixI_inW (ss : List ByteArray) (x y : Int) (h : pixI ss x y = true) : (0 ≤ x ∧ x < ((row0 ss).size : Nat)) ∧ (0 ≤ y ∧ y < (ss.length : Nat)) := by
  unfold pixI insB inB at h
  simp at h
  omega
/-- what a search over a valid picture says -/
theorem reach_pic (pb po : Nat) (ss : List ByteArray) (e8 : Bool) (sv : Value) (xs : List (Int × Int)) (w : World) (hp : PicAt w pb po ss) (hxs : xs.length ≤ 256) (hs : SlS w sv xs) :
    Calls Tryd.prog 72 #[.pointer (some ⟨pb, po, none⟩), sv, .bool e8] w (ReachPic (pixI ss) (stepL e8) xs (row0 ss).size ss.length w) := by
  have V := vp_of hp.ok
  exact l03Reach_any pb po _ _ _ e8 sv xs w ⟨V.w1, V.w16⟩ ⟨V.n1, V.n16⟩ (fun x y h => pixI_inW ss x y h) hxs hs
    (fun W hb => l01Width_any pb po ss W (hp.below hb)) (fun W hb => l01Height_any pb po ss W (hp.below hb)) (fun X Y W hb => l01Black_any pb po ss X Y W (hp.below hb))

end Go.Proofs.YtenbhnfajjknkaaDoor

/- Contracts of single functions, and plain lemmas, on which the exact laws of this seat rest; each holds under the conditions that it states. -/
namespace Go.Proofs.YtenbhnfajjknkaaDoor
set_option linter.unusedVariables false
set_option linter.unusedSimpArgs false
open Go.RowKit
attribute [local go_sem] Oper.semAt_some

/-! ### what is reached of a mask -/
noncomputable def rchF (p : Int → Int → Bool) (S xs : List (Int × Int)) (y x : Nat) : Bool := @decide (Reach p S xs ((x : Int), (y : Int))) (Classical.propDecidable _)
theorem rchF_iff (p : Int → Int → Bool) (S xs : List (Int × Int)) (y x : Nat) : rchF p S xs y x = true ↔ Reach p S xs ((x : Int), (y : Int)) := by
  unfold rchF
  exact @decide_eq_true_iff _ (Classical.propDecidable _)
theorem rchF_eq {p : Int → Int → Bool} {S xs : List (Int × Int)} {y x : Nat} {c : Bool} (h : c = true ↔ Reach p S xs ((x : Int), (y : Int))) : c = rchF p S xs y x := by
  rw [Bool.eq_iff_iff, rchF_iff]
  exact h
def spW (ss : List ByteArray) : List (Int × Int) := spL (pixF ss) (row0 ss).size ((row0 ss).size * ss.length)
noncomputable def rcF (ss tt : List ByteArray) (e8 : Bool) : Nat → Nat → Bool := rchF (pixI tt) (stepL e8) (spW ss)
noncomputable def rcP (ss tt : List ByteArray) (e8 : Bool) : List ByteArray := if likeB ss tt then mkPic (row0 tt).size tt.length (rcF ss tt e8) else []
theorem rcP_no {ss tt : List ByteArray} {e8 : Bool} (h : likeB ss tt = false) : rcP ss tt e8 = [] := by unfold rcP; rw [h]; rfl
theorem rcP_yes {ss tt : List ByteArray} {e8 : Bool} (h : likeB ss tt = true) : rcP ss tt e8 = mkPic (row0 tt).size tt.length (rcF ss tt e8) := by unfold rcP; rw [h]; rfl
theorem pixI_nat {ss : List ByteArray} (x y : Nat) : pixI ss (x : Int) (y : Int) = (decide (x < (row0 ss).size) && decide (y < ss.length) && pixF ss y x) := by
  unfold pixI pixF insB inB
  simp only [Int.toNat_natCast]
  congr 1
  rw [Bool.eq_iff_iff]
  simp
  omega
theorem spW_mem {ss : List ByteArray} (V : VP ss) (q : Int × Int) : q ∈ spW ss ↔ pixI ss q.1 q.2 = true := by
  unfold spW
  rw [spL_mem]
  have hw := V.w1
  constructor
  · rintro ⟨i, hi, hf, rfl⟩
    show pixI ss ((i % (row0 ss).size : Nat) : Int) ((i / (row0 ss).size : Nat) : Int) = true
    have h1 : i % (row0 ss).size < (row0 ss).size := Nat.mod_lt _ hw
    have h2 : i / (row0 ss).size < ss.length := Nat.div_lt_of_lt_mul hi
    rw [pixI_nat, decide_eq_true h1, decide_eq_true h2, hf]
    rfl
  · intro h
    have hin := pixI_inW ss q.1 q.2 h
    obtain ⟨x, hx⟩ : ∃ x : Nat, q.1 = x := ⟨q.1.toNat, by omega⟩
    obtain ⟨y, hy⟩ : ∃ y : Nat, q.2 = y := ⟨q.2.toNat, by omega⟩
    have hx2 : x < (row0 ss).size := by omega
    have hy2 : y < ss.length := by omega
    rw [hx, hy, pixI_nat, decide_eq_true hx2, decide_eq_true hy2] at h
    have h3 : pixF ss y x = true := by simpa using h
    have e1 : (y * (row0 ss).size + x) / (row0 ss).size = y := by
      rw [Nat.mul_comm, Nat.mul_add_div (by omega), Nat.div_eq_of_lt hx2, Nat.add_zero]
    have e2 : (y * (row0 ss).size + x) % (row0 ss).size = x := by
      rw [Nat.mul_comm, Nat.mul_add_mod, Nat.mod_eq_of_lt hx2]
    refine ⟨y * (row0 ss).size + x, ?_, by rw [e1, e2]; exact h3, ?_⟩
    · have : (y + 1) * (row0 ss).size ≤ ss.length * (row0 ss).size := Nat.mul_le_mul hy2 (Nat.le_refl _)
      rw [Nat.add_mul, Nat.one_mul] at this
      rw [Nat.mul_comm (row0 ss).size]
      omega
    · rw [e1, e2]
      exact Prod.ext hx hy
theorem spW_len {ss : List ByteArray} (V : VP ss) : (spW ss).length ≤ 256 := by
  have h := spL_len (pixF ss) (row0 ss).size ((row0 ss).size * ss.length)
  have h2 : (row0 ss).size * ss.length ≤ 16 * 16 := Nat.mul_le_mul V.w16 V.n16
  unfold spW
  omega
theorem like_parts {ss tt : List ByteArray} (h : likeB ss tt = true) : validB ss = true ∧ validB tt = true ∧ (row0 ss).size = (row0 tt).size ∧ ss.length = tt.length := by
  unfold likeB at h
  simp only [Bool.and_eq_true, decide_eq_true_eq] at h
  exact ⟨h.1.1.1, h.1.1.2, h.1.2, h.2⟩

set_option maxHeartbeats 4000000 in
set_option maxRecDepth 100000 in
theorem spec_Rec (u v : Value) (ss tt : List ByteArray) (e8 : Bool) (w : World) (hL : ss.length ≤ maxLen) (hz : ∀ s ∈ ss, s.size ≤ maxLen) (hu : Sl w u ss) (hL2 : tt.length ≤ maxLen) (hz2 : ∀ s ∈ tt, s.size ≤ maxLen) (hv : Sl w v tt) :
    Calls Tryd.prog 35 #[.agg #[u], .agg #[v], .bool e8] w (SaysPic (rcP ss tt e8) (likeB ss tt) w) := by
  obtain ⟨W0, hW0⟩ : ∃ W0, ((w.alloc (.cells #[u] 30)).alloc (.cells #[v] 30)).alloc (.cells #[.slice none 0 0] 30) = W0 := ⟨_, rfl⟩
  have hs0 : W0.heap.size = w.heap.size + 1 + 1 + 1 := by rw [← hW0]; simp
  have hb0 : Below w.heap.size w W0 := by rw [← hW0]; exact Joins.below_alloc3 _ _ _ _
  have p0 : W0.heap[w.heap.size]? = some (.cells #[u] 30 (0, 0)) := by
    rw [← hW0, Below.heap_alloc _ _ _ (by first | (simp; done) | (simp; omega)), Below.heap_alloc _ _ _ (by first | (simp; done) | (simp; omega))]; exact heap_alloc_last w _
  have p1 : W0.heap[w.heap.size + 1]? = some (.cells #[v] 30 (0, 0)) := by
    rw [← hW0, Below.heap_alloc _ _ _ (by first | (simp; done) | (simp; omega))]
    exact heap_alloc2_new _ _ _
  have p2 : W0.heap[w.heap.size + 1 + 1]? = some (.cells #[.slice none 0 0] 30 (0, 0)) := by
    rw [← hW0]
    have := heap_alloc_last ((w.alloc (.cells #[u] 30)).alloc (.cells #[v] 30)) (.cells #[.slice none 0 0] 30)
    simpa only [World.size_alloc] using this
  have HW := Lib.hid hW0
  have HB0 := Lib.hid hb0
  have HS0 := Lib.hid hs0
  have KR : Hid (∀ W, Below W0.heap.size W0 W → W.heap[w.heap.size + 1 + 1]? = some (.cells #[.slice none 0 0] 30 (0, 0))) := fun W hb => (hb.block _ (by omega)).trans p2
  have CL := Lib.hid (l01Like_any w.heap.size (w.heap.size + 1) u v ss tt W0 (cell_of_one p0) (hu.below hb0) hL hz (cell_of_one p1) (hv.below hb0) hL2 hz2)
  cases hlk : likeB ss tt with
  | false =>
    have e1 : Hid (rcP ss tt e8 = []) := rcP_no hlk
    rw [hlk] at CL
    rw [e1.out]
    clear hlk e1 hu hL hz hv hL2 hz2 p0 p1 p2 hW0 hb0 hs0
    go_enter Tryd.func35, Tryd.ntmps35
    go_wp2_with fail
    rw [HW.out]
    refine CL.out.mono ?_
    rintro e w1 ⟨rfl, hb1⟩
    have hp1 := KR.out _ hb1
    have hfr : w1.frozen? ⟨w.heap.size + 1 + 1, 0, none⟩ = false := free_of_one hp1
    have hc2 : w1.cell? ⟨w.heap.size + 1 + 1, 0, none⟩ = some (.slice none 0 0) := cell_of_one hp1
    have B1 : Hid (Below w.heap.size w w1) := HB0.out.trans (hb1.mono HB0.out.size)
    have P1 := Lib.hid hp1
    clear hb1 hp1
    go_wp2_with fail
    refine bodyPost_ret (v := .tuple #[.agg #[.slice none 0 0], .bool false]) (by simp [results, Tryd.results35, go_sem, cell_of_one (one_setCell P1.out)]) rfl ⟨_, _, _, rfl, World.ownsRow_nil _ _ _ _, B1.out.setCell (by show w.heap.size ≤ w.heap.size + 1 + 1; omega) _⟩
  | true =>
    obtain ⟨hva, hvb, _, _⟩ := like_parts hlk
    have V := vp_of hva
    have e1 : Hid (rcP ss tt e8 = mkPic (row0 tt).size tt.length (rcF ss tt e8)) := rcP_yes hlk
    rw [hlk] at CL
    have hpa : ∀ W, Below W0.heap.size W0 W → PicAt W w.heap.size 0 ss := fun W hb => ⟨hva, u, cell_of_one ((hb.block _ (by omega)).trans p0), (hu.below hb0).below hb⟩
    have hpb : ∀ W, Below W0.heap.size W0 W → PicAt W (w.heap.size + 1) 0 tt := fun W hb => ⟨hvb, v, cell_of_one ((hb.block _ (by omega)).trans p1), (hv.below hb0).below hb⟩
    have CS : Hid (∀ W, Below W0.heap.size W0 W → Calls Tryd.prog 73 #[.pointer (some ⟨w.heap.size, 0, none⟩)] W (fun e w' => ∃ v, e = .returned v ∧ (∃ ao n cap, v = .slice ao n cap) ∧ OwnS w' W.heap.size v (spW ss) ∧ Below W.heap.size W w')) := fun W hb => l01Spots_any w.heap.size 0 ss W (hpa W hb)
    have CR : Hid (∀ sv W, Below W0.heap.size W0 W → SlS W sv (spW ss) → Calls Tryd.prog 72 #[.pointer (some ⟨w.heap.size + 1, 0, none⟩), sv, .bool e8] W (TookPic W (mkPic (row0 tt).size tt.length (rcF ss tt e8)))) := fun sv W hb hs =>
      (reach_pic (w.heap.size + 1) 0 tt e8 sv (spW ss) W (hpb W hb) (spW_len V) hs).mono fun e w' ⟨bs, _, hr, ht⟩ => by
        rw [show mkPic (row0 tt).size tt.length (rcF ss tt e8) = mkPic (row0 tt).size tt.length (fun y x => bs.getD (y * (row0 tt).size + x) false) from mkPic_congr fun y hy x hx => (rchF_eq (hr x y hx hy)).symm]
        exact ht
    rw [e1.out]
    obtain ⟨pic, hpic⟩ : ∃ p, mkPic (row0 tt).size tt.length (rcF ss tt e8) = p := ⟨_, rfl⟩
    rw [hpic] at CR ⊢
    obtain ⟨xs, hxs⟩ : ∃ x, spW ss = x := ⟨_, rfl⟩
    rw [hxs] at CR CS
    unfold TookPic at CR
    clear hlk e1 hu hL hz hv hL2 hz2 p0 p1 p2 hW0 hb0 hs0 hpa hpb hva hvb V hpic hxs
    go_enter Tryd.func35, Tryd.ntmps35
    go_wp2_with fail
    rw [HW.out]
    refine CL.out.mono ?_
    rintro e w1 ⟨rfl, hb1⟩
    have HB1 := Lib.hid hb1
    clear hb1
    go_wp2_with fail
    refine (CS.out _ HB1.out).mono ?_
    rintro e w2 ⟨sv, rfl, ⟨ao, n, cap, rfl⟩, hown, hb2⟩
    have HB2 := Lib.hid (HB1.out.trans (hb2.mono HB1.out.size))
    have HSl := Lib.hid (OwnS.sl hown)
    clear hb2 hown
    go_wp2_with fail
    refine (CR.out _ _ HB2.out HSl.out).mono ?_
    rintro e w5 ⟨g4, cap4, rfl, hown4, hb4⟩
    have hb5 := HB2.out.trans (hb4.mono HB2.out.size)
    have hp2 := KR.out _ hb5
    have hfr : w5.frozen? ⟨w.heap.size + 1 + 1, 0, none⟩ = false := free_of_one hp2
    have hc2 : w5.cell? ⟨w.heap.size + 1 + 1, 0, none⟩ = some (.slice none 0 0) := cell_of_one hp2
    have O2 := Lib.hid (own_set (u := .slice (some ⟨g4, 0, none⟩) pic.length cap4) hown4 hp2 (by decide))
    have P5 := Lib.hid hp2
    have B5 := Lib.hid (HB0.out.trans (hb5.mono HB0.out.size))
    have hs4 : w.heap.size ≤ w2.heap.size := Nat.le_trans HB0.out.size HB2.out.size
    clear hown4 hp2 hb4 hb5
    go_wp2_with fail
    refine bodyPost_ret (v := .tuple #[.agg #[.slice (some ⟨g4, 0, none⟩) pic.length cap4], .bool true]) (by simp [results, Tryd.results35, go_sem, cell_of_one (one_setCell P5.out)]) rfl ⟨_, _, _, rfl, Joins.ownsRow_le O2.out hs4, B5.out.setCell (by show w.heap.size ≤ w.heap.size + 1 + 1; omega) _⟩
end Go.Proofs.YtenbhnfajjknkaaDoor
