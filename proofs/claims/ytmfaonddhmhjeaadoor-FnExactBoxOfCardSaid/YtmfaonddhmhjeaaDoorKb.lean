/- Contracts of single functions, and plain lemmas, on which the exact laws of this seat rest; each holds under the conditions that it states. -/
import Derived.Test.YtmfaonddhmhjeaaDoorKa
import Derived.Deep.DeepCutAuto
namespace Go.Proofs.YtmfaonddhmhjeaaDoor
set_option linter.unusedVariables false
set_option linter.unusedSimpArgs false
open Go.RowKit

def SaysBox (ss : List ByteArray) (w : World) (e : Ending) (w' : World) : Prop :=
  ∃ (a b c d : Int) (ok : Bool), e = .returned (.tuple #[.agg #[.int .i64 a, .int .i64 b], .agg #[.int .i64 c, .int .i64 d], .bool ok]) ∧ BoxSays ss a b c d ok ∧ Below w.heap.size w w'

theorem l00Min_any (a b : Int) (w : World) : Calls Tryd.prog 54 #[.int .i64 a, .int .i64 b] w (fun e w' => e = .returned (.int .i64 (min a b)) ∧ w = w') := by
  by_cases h : a < b
  · have e : Hid (min a b = a) := by show _ = _; omega
    go_enter Tryd.func54, Tryd.ntmps54
    go_wp2
    go_ret
    exact ⟨ret_int e.out.symm, rfl⟩
  · have e : Hid (min a b = b) := by show _ = _; omega
    go_enter Tryd.func54, Tryd.ntmps54
    go_wp2
    go_ret
    exact ⟨ret_int e.out.symm, rfl⟩
theorem l00Max_any (a b : Int) (w : World) : Calls Tryd.prog 55 #[.int .i64 a, .int .i64 b] w (fun e w' => e = .returned (.int .i64 (max a b)) ∧ w = w') := by
  by_cases h : b < a
  · have e : Hid (max a b = a) := by show _ = _; omega
    go_enter Tryd.func55, Tryd.ntmps55
    go_wp2
    go_ret
    exact ⟨ret_int e.out.symm, rfl⟩
  · have e : Hid (max a b = b) := by show _ = _; omega
    go_enter Tryd.func55, Tryd.ntmps55
    go_wp2
    go_ret
    exact ⟨ret_int e.out.symm, rfl⟩

theorem begin_box (w : World) (v : Value) : ∃ W0, ((w.alloc (.cells #[v] 26)).alloc (.cells #[.int .i64 0, .int .i64 0] 42)).alloc (.cells #[.int .i64 0, .int .i64 0] 42) = W0 ∧ Below w.heap.size w W0 ∧ w.heap.size + 2 < W0.heap.size ∧
    W0.heap[w.heap.size]? = some (.cells #[v] 26 (0, 0)) ∧ W0.heap[w.heap.size + 1]? = some (.cells #[.int .i64 0, .int .i64 0] 42 (0, 0)) ∧ W0.heap[w.heap.size + 1 + 1]? = some (.cells #[.int .i64 0, .int .i64 0] 42 (0, 0)) := by
  refine ⟨_, rfl, Joins.below_alloc3 _ _ _ _, by simp, ?_, ?_, ?_⟩
  · rw [Below.heap_alloc _ _ _ (by simp; omega), Below.heap_alloc _ _ _ (by simp)]; exact heap_alloc_last w _
  · rw [Below.heap_alloc _ _ _ (by simp)]; exact heap_alloc2_new _ _ _
  · have := heap_alloc_last ((w.alloc (.cells #[v] 26)).alloc (.cells #[.int .i64 0, .int .i64 0] 42)) (.cells #[.int .i64 0, .int .i64 0] 42)
    simp only [World.size_alloc] at this
    exact this
/-- a spot's variable -/
def SpV (W : World) (b : Nat) (x y : Int) : Prop := W.heap[b]? = some (.cells #[.int .i64 x, .int .i64 y] 42 (0, 0))
theorem SpV.c0 {W : World} {b : Nat} {x y : Int} (h : SpV W b x y) : W.cell? ⟨b, 0, none⟩ = some (.int .i64 x) := (Joins.cell_of_block h 0).trans rfl
theorem SpV.c1 {W : World} {b : Nat} {x y : Int} (h : SpV W b x y) : W.cell? ⟨b, 1, none⟩ = some (.int .i64 y) := (Joins.cell_of_block h 1).trans rfl
theorem SpV.f {W : World} {b : Nat} {x y : Int} (h : SpV W b x y) (o : Nat) : W.frozen? ⟨b, o, none⟩ = false := Joins.unfrozen_of_block h o
theorem SpV.below {W W' : World} {b : Nat} {x y : Int} (h : SpV W b x y) (hb : Below W.heap.size W W') : SpV W' b x y := (hb.block _ (Array.getElem?_eq_some_iff.1 h).1).trans h
theorem SpV.set0 {W : World} {b : Nat} {x y : Int} (h : SpV W b x y) (z : Int) : SpV (W.setCell ⟨b, 0, none⟩ (.int .i64 z)) b z y := Lib.heap_setCell_same (i := 0) h (.int .i64 z)
theorem SpV.set1 {W : World} {b : Nat} {x y : Int} (h : SpV W b x y) (z : Int) : SpV (W.setCell ⟨b, 1, none⟩ (.int .i64 z)) b x z := Lib.heap_setCell_same (i := 1) h (.int .i64 z)
theorem SpV.oth {W : World} {b c o : Nat} {x y : Int} (h : SpV W b x y) (hc : b ≠ c) (u : Value) : SpV (W.setCell ⟨c, o, none⟩ u) b x y := (Below.heap_setCell W ⟨c, o, none⟩ u b hc).trans h
theorem SpV.lt {W : World} {b : Nat} {x y : Int} (h : SpV W b x y) : b < W.heap.size := (Array.getElem?_eq_some_iff.1 h).1

/-- low and high, the spots and the results' variables while the box is looked for -/
structure BoxSt (w W : World) (bl g : Nat) (L : List (Int × Int)) (a b c d : Int) : Prop where
  lo : SpV W bl a b
  hi : SpV W (bl + 1) c d
  sp : Spots W g L
  r1 : SpV W (w.heap.size + 1) 0 0
  r2 : SpV W (w.heap.size + 1 + 1) 0 0
  be : Below w.heap.size w W
  ord : w.heap.size + 2 < g ∧ g < bl
theorem spots_oth {W : World} {g c o : Nat} {L : List (Int × Int)} (h : Spots W g L) (hc : g ≠ c) (u : Value) : Spots (W.setCell ⟨c, o, none⟩ u) g L := by
  have hh := Below.heap_setCell W ⟨c, o, none⟩ u g hc
  refine ⟨by have := h.1; simpa [World.setCell] using this, fun i hi => ⟨?_, ?_⟩⟩
  · rw [World.cell?_of_block hh]; exact (h.2 i hi).1
  · rw [World.cell?_of_block hh]; exact (h.2 i hi).2
section
variable {w W : World} {bl g : Nat} {L : List (Int × Int)} {a b c d : Int}
theorem BoxSt.drew (H : BoxSt w W bl g L a b c d) : BoxSt w W.drew bl g L a b c d := ⟨H.lo, H.hi, H.sp, H.r1, H.r2, H.be.drew, H.ord⟩
theorem BoxSt.lo0 (H : BoxSt w W bl g L a b c d) (z : Int) : BoxSt w (W.setCell ⟨bl, 0, none⟩ (.int .i64 z)) bl g L z b c d := by
  have h1 := H.ord.1
  have h2 := H.ord.2
  exact ⟨H.lo.set0 z, H.hi.oth (by omega) _, spots_oth H.sp (by omega) _, H.r1.oth (by omega) _, H.r2.oth (by omega) _, H.be.setCell (by simp; omega) _, H.ord⟩
theorem BoxSt.lo1 (H : BoxSt w W bl g L a b c d) (z : Int) : BoxSt w (W.setCell ⟨bl, 1, none⟩ (.int .i64 z)) bl g L a z c d := by
  have h1 := H.ord.1
  have h2 := H.ord.2
  exact ⟨H.lo.set1 z, H.hi.oth (by omega) _, spots_oth H.sp (by omega) _, H.r1.oth (by omega) _, H.r2.oth (by omega) _, H.be.setCell (by simp; omega) _, H.ord⟩
theorem BoxSt.hi0 (H : BoxSt w W bl g L a b c d) (z : Int) : BoxSt w (W.setCell ⟨bl + 1, 0, none⟩ (.int .i64 z)) bl g L a b z d := by
  have h1 := H.ord.1
  have h2 := H.ord.2
  exact ⟨H.lo.oth (by omega) _, H.hi.set0 z, spots_oth H.sp (by omega) _, H.r1.oth (by omega) _, H.r2.oth (by omega) _, H.be.setCell (by simp; omega) _, H.ord⟩
theorem BoxSt.hi1 (H : BoxSt w W bl g L a b c d) (z : Int) : BoxSt w (W.setCell ⟨bl + 1, 1, none⟩ (.int .i64 z)) bl g L a b c z := by
  have h1 := H.ord.1
  have h2 := H.ord.2
  exact ⟨H.lo.oth (by omega) _, H.hi.set1 z, spots_oth H.sp (by omega) _, H.r1.oth (by omega) _, H.r2.oth (by omega) _, H.be.setCell (by simp; omega) _, H.ord⟩
end

set_option maxHeartbeats 4000000 in
set_option maxRecDepth 100000 in
theorem spec_Box_yes (v : Value) (ss : List ByteArray) (w : World) (hN : ss.length ≤ maxLen) (hz : ∀ s ∈ ss, s.size ≤ maxLen) (hv : Sl w v ss) (hok : validB ss = true) (hpos : 0 < (spL (pixF ss) (row0 ss).size ((row0 ss).size * ss.length)).length) :
    Calls Tryd.prog 21 #[.agg #[v]] w (SaysBox ss w) := by
  have V := vp_of hok
  have hw1 := V.w1
  have hlen : (spL (pixF ss) (row0 ss).size ((row0 ss).size * ss.length)).length ≤ 256 := Nat.le_trans (spL_len _ _ _) (Nat.mul_le_mul V.w16 V.n16)
  obtain ⟨W0, hW0, hb0, hl0, hp0, hp1, hp2⟩ := begin_box w v
  have hcv : W0.cell? ⟨w.heap.size, 0, none⟩ = some v := cell_of_one hp0
  have CIs : Hid (Calls Tryd.prog 45 #[.pointer (some ⟨w.heap.size, 0, none⟩)] W0 (SaysB true W0)) := by
    have := l01Is_any w.heap.size 0 v ss W0 hcv (hv.below hb0) hN hz
    rwa [hok] at this
  have CSp : Hid (∀ W, Below W0.heap.size W0 W → Calls Tryd.prog 53 #[.pointer (some ⟨w.heap.size, 0, none⟩)] W (fun e w' => ∃ v, e = .returned v ∧ (∃ ao n cap, v = .slice ao n cap) ∧ OwnS w' W.heap.size v (spL (pixF ss) (row0 ss).size ((row0 ss).size * ss.length)) ∧ Below W.heap.size W w')) := fun W hb =>
    l01Spots_any w.heap.size 0 ss W ⟨hok, v, cell_kept hb hcv, (hv.below hb0).below hb⟩
  have HBox : Hid (∀ a b c d, MM (spL (pixF ss) (row0 ss).size ((row0 ss).size * ss.length)) (spL (pixF ss) (row0 ss).size ((row0 ss).size * ss.length)).length a b c d → BoxSays ss a b c d true) := fun a b c d H => Or.inl ⟨rfl, hok, box_spots (by omega) H⟩
  obtain ⟨L, hL⟩ : ∃ L, spL (pixF ss) (row0 ss).size ((row0 ss).size * ss.length) = L := ⟨_, rfl⟩
  rw [hL] at CSp hpos hlen HBox
  obtain ⟨n, hn⟩ : ∃ n, L.length = n := ⟨_, rfl⟩
  rw [hn] at hpos hlen HBox
  have HN := Lib.hid hn
  have HW := Lib.hid hW0
  have B0 := Lib.hid hb0
  have P1 : Hid (SpV W0 (w.heap.size + 1) 0 0) := hp1
  have P2 : Hid (SpV W0 (w.heap.size + 1 + 1) 0 0) := hp2
  clear hL hn hW0 hb0 hp0 hp1 hp2 hcv hok V hv
  go_enter Tryd.func21, Tryd.ntmps21
  go_wp2_with fail
  rw [HW.out]
  refine CIs.out.mono ?_
  rintro e w1 ⟨rfl, hb1⟩
  have B1 := Lib.hid (B0.out.trans (hb1.mono B0.out.size))
  have C1 := Lib.hid (CSp.out _ hb1)
  have Q1 := Lib.hid (P1.out.below hb1)
  have Q2 := Lib.hid (P2.out.below hb1)
  clear hb1
  go_wp2_with fail
  refine C1.out.mono ?_
  rintro e w2 ⟨v2, rfl, ⟨ao, m, cap, rfl⟩, hown, hb2⟩
  have B2 := Lib.hid (B1.out.trans (hb2.mono B1.out.size))
  have R1 := Lib.hid (Q1.out.below hb2)
  have R2 := Lib.hid (Q2.out.below hb2)
  obtain ⟨g, cap', he⟩ := Joins.ownsRow_form hown (by rw [HN.out]; exact hpos)
  rw [HN.out] at he
  obtain ⟨rfl, rfl, rfl⟩ : ao = some ⟨g, 0, none⟩ ∧ m = n ∧ cap = cap' := by cases he; exact ⟨rfl, rfl, rfl⟩
  have hgl := (hown.lt g rfl)
  have hS : Spots w2 g L := OwnS.spots hown
  have HSp := Lib.hid hS
  have c0 := (hS.2 0 (by rw [HN.out]; exact hpos)).1
  have c1 := (hS.2 0 (by rw [HN.out]; exact hpos)).2
  rw [Nat.zero_mul] at c0 c1
  rw [Nat.zero_add] at c1
  have hM1 := MM.one L
  obtain ⟨x0, hx0⟩ : ∃ x0, (L.getD 0 (0, 0)).1 = x0 := ⟨_, rfl⟩
  obtain ⟨y0, hy0⟩ : ∃ y0, (L.getD 0 (0, 0)).2 = y0 := ⟨_, rfl⟩
  rw [hx0] at c0 hM1
  rw [hy0] at c1 hM1
  have HM1 := Lib.hid hM1
  have ne : ((m : Int) == 0) = false := by rw [beq_eq_false_iff_ne]; omega
  have mpos : (0 : Int) < (m : Int) := by omega
  have hg1 : w.heap.size + 2 < g := by have := hgl.1; have := B1.out.size; have := Q2.out.lt; omega
  have hg2 := hgl.2
  clear hb2 hown hS hM1 hx0 hy0 he hgl
  go_wp2_with fail
  have hgl2 : g < w2.heap.size := hg2
  go_loopw [8] (fun iv wr => ∃ (i : Nat) (a b c d : Int), 1 ≤ i ∧ i ≤ m ∧ iv = .int .i64 i ∧ BoxSt w wr w2.heap.size g L a b c d ∧ Hid (MM L i a b c d)) (fun iv _ => m - (intOf iv).toNat)
  case atStart =>
    have hb := Joins.below_alloc2 w2 (.cells #[.int .i64 x0, .int .i64 y0] 42) (.cells #[.int .i64 x0, .int .i64 y0] 42)
    refine ⟨1, x0, y0, x0, y0, by omega, by omega, rfl, ⟨?_, heap_alloc2_new _ _ _, HSp.out.below hb, R1.out.below hb, R2.out.below hb, B2.out.trans (hb.mono B2.out.size), ⟨hg1, hgl2⟩⟩, HM1.out⟩
    show _ = _
    rw [Below.heap_alloc _ _ _ (by simp)]; exact heap_alloc_last w2 _
  case round =>
    clear c0 c1
    obtain ⟨i, a, b, c, d, hi1, hi, rfl, hst, HM⟩ := hrel
    have H0 := Lib.hid hst
    clear hst
    by_cases hlt : i < m
    · obtain ⟨x, y, hxy⟩ : ∃ x y, L.getD i (0, 0) = (x, y) := ⟨_, _, rfl⟩
      have HM2 := Lib.hid (HM.out.step hxy)
      have HC : Hid (∀ W, Spots W g L → W.cell? ⟨g, i * 2, none⟩ = some (.int .i64 x) ∧ W.cell? ⟨g, i * 2 + 1, none⟩ = some (.int .i64 y)) := fun W h => by
        have := h.2 i (by rw [HN.out]; exact hlt)
        rwa [hxy] at this
      have k6 : (0 : Int) ≤ (i : Int) := by omega
      have k7 : (i : Int) < (m : Int) := by omega
      clear hxy HM
      go_upto_region 11 with fail
      go_cut [] (fun wx => BoxSt w wx w2.heap.size g L (min a x) b c d)
      case first =>
        have q1 := (HC.out _ H0.out.sp).1
        have q2 := H0.out.lo.c0
        have q3 := H0.out.lo.f 0
        have q4 := H0.out.lo.lt
        go_region_with (go_at_call 54; refine (l00Min_any _ _ _).mono ?_; rintro e w' ⟨rfl, rfl⟩)
        all_goals (go_wp2_with fail; go_meet)
        all_goals first | exact H0.out.lo0 _ | exact (H0.out.lo0 _).drew | exact H0.out.drew.lo0 _
      have H1 := Lib.hid hcut
      clear hcut
      go_upto_region 12 with fail
      go_cut [] (fun wx => BoxSt w wx w2.heap.size g L (min a x) (min b y) c d)
      case first =>
        have q1 := (HC.out _ H1.out.sp).2
        have q2 := H1.out.lo.c1
        have q3 := H1.out.lo.f 1
        have q4 := H1.out.lo.lt
        go_region_with (go_at_call 54; refine (l00Min_any _ _ _).mono ?_; rintro e w' ⟨rfl, rfl⟩)
        all_goals (go_wp2_with fail; go_meet)
        all_goals first | exact H1.out.lo1 _ | exact (H1.out.lo1 _).drew | exact H1.out.drew.lo1 _
      have H2 := Lib.hid hcut
      clear hcut
      go_upto_region 13 with fail
      go_cut [] (fun wx => BoxSt w wx w2.heap.size g L (min a x) (min b y) (max c x) d)
      case first =>
        have q1 := (HC.out _ H2.out.sp).1
        have q2 := H2.out.hi.c0
        have q3 := H2.out.hi.f 0
        have q4 := H2.out.hi.lt
        go_region_with (go_at_call 55; refine (l00Max_any _ _ _).mono ?_; rintro e w' ⟨rfl, rfl⟩)
        all_goals (go_wp2_with fail; go_meet)
        all_goals first | exact H2.out.hi0 _ | exact (H2.out.hi0 _).drew | exact H2.out.drew.hi0 _
      have H3 := Lib.hid hcut
      clear hcut
      have q1 := (HC.out _ H3.out.sp).2
      have q2 := H3.out.hi.c1
      have q3 := H3.out.hi.f 1
      have q4 := H3.out.hi.lt
      go_wp2
      go_region_with (go_at_call 55; refine (l00Max_any _ _ _).mono ?_; rintro e w' ⟨rfl, rfl⟩)
      all_goals go_wp2
      all_goals (refine ⟨⟨i + 1, _, _, _, _, by omega, by omega, by go_num, by first | exact H3.out.hi1 _ | exact (H3.out.hi1 _).drew | exact H3.out.drew.hi1 _, HM2.out⟩, by simp [intOf]; omega⟩)
    · obtain rfl : i = m := by omega
      have HS := Lib.hid (HBox.out _ _ _ _ HM.out)
      have q1 := H0.out.lo.c0
      have q2 := H0.out.lo.c1
      have q3 := H0.out.hi.c0
      have q4 := H0.out.hi.c1
      have a0 := H0.out.r1.c0
      have a1 := H0.out.r1.c1
      have a2 := H0.out.r2.c0
      have a3 := H0.out.r2.c1
      have f0 := H0.out.r1.f 0
      have f1 := H0.out.r1.f 1
      have f2 := H0.out.r2.f 0
      have f3 := H0.out.r2.f 1
      clear HM
      have HB := Lib.hid H0.out.be
      go_wp2
      go_region
      go_wp2_with fail
      refine bodyPost_ret (v := .tuple #[.agg #[.int .i64 a, .int .i64 b], .agg #[.int .i64 c, .int .i64 d], .bool true]) (by simp [results, Tryd.results21, go_sem, a0, a1, a2, a3, f0, f1, f2, f3]) rfl ⟨a, b, c, d, true, rfl, HS.out, ?_⟩
      first
        | exact ((((HB.out.setCell (by simp) _).setCell (by simp) _).setCell (by simp; omega) _).setCell (by simp; omega) _).drew
        | exact ((((HB.out.drew.setCell (by simp) _).setCell (by simp) _).setCell (by simp; omega) _).setCell (by simp; omega) _)

set_option maxHeartbeats 2000000 in
set_option maxRecDepth 100000 in
theorem spec_Box_none (v : Value) (ss : List ByteArray) (w : World) (hN : ss.length ≤ maxLen) (hz : ∀ s ∈ ss, s.size ≤ maxLen) (hv : Sl w v ss) (hok : validB ss = true) (hpos : (spL (pixF ss) (row0 ss).size ((row0 ss).size * ss.length)).length = 0) :
    Calls Tryd.prog 21 #[.agg #[v]] w (SaysBox ss w) := by
  have V := vp_of hok
  have hw1 := V.w1
  obtain ⟨W0, hW0, hb0, hl0, hp0, hp1, hp2⟩ := begin_box w v
  have hcv : W0.cell? ⟨w.heap.size, 0, none⟩ = some v := cell_of_one hp0
  have CIs : Hid (Calls Tryd.prog 45 #[.pointer (some ⟨w.heap.size, 0, none⟩)] W0 (SaysB true W0)) := by
    have := l01Is_any w.heap.size 0 v ss W0 hcv (hv.below hb0) hN hz
    rwa [hok] at this
  have CSp : Hid (∀ W, Below W0.heap.size W0 W → Calls Tryd.prog 53 #[.pointer (some ⟨w.heap.size, 0, none⟩)] W (fun e w' => ∃ v, e = .returned v ∧ (∃ ao n cap, v = .slice ao n cap) ∧ OwnS w' W.heap.size v (spL (pixF ss) (row0 ss).size ((row0 ss).size * ss.length)) ∧ Below W.heap.size W w')) := fun W hb =>
    l01Spots_any w.heap.size 0 ss W ⟨hok, v, cell_kept hb hcv, (hv.below hb0).below hb⟩
  have HS : Hid (BoxSays ss 0 0 0 0 false) := Or.inr ⟨rfl, rfl, rfl, rfl, rfl, fun _ => none_spots (by omega) hpos⟩
  obtain ⟨L, hL⟩ : ∃ L, spL (pixF ss) (row0 ss).size ((row0 ss).size * ss.length) = L := ⟨_, rfl⟩
  rw [hL] at CSp hpos
  have HN := Lib.hid hpos
  have HW := Lib.hid hW0
  have B0 := Lib.hid hb0
  have P1 : Hid (SpV W0 (w.heap.size + 1) 0 0) := hp1
  have P2 : Hid (SpV W0 (w.heap.size + 1 + 1) 0 0) := hp2
  clear hL hpos hW0 hb0 hp0 hp1 hp2 hcv hok V hv
  go_enter Tryd.func21, Tryd.ntmps21
  go_wp2_with fail
  rw [HW.out]
  refine CIs.out.mono ?_
  rintro e w1 ⟨rfl, hb1⟩
  have B1 := Lib.hid (B0.out.trans (hb1.mono B0.out.size))
  have C1 := Lib.hid (CSp.out _ hb1)
  have Q1 := Lib.hid (P1.out.below hb1)
  have Q2 := Lib.hid (P2.out.below hb1)
  clear hb1
  go_wp2_with fail
  refine C1.out.mono ?_
  rintro e w2 ⟨v2, rfl, ⟨ao, m, cap, rfl⟩, hown, hb2⟩
  have B2 := Lib.hid (B1.out.trans (hb2.mono B1.out.size))
  have R1 := Q1.out.below hb2
  have R2 := Q2.out.below hb2
  obtain rfl : m = 0 := by
    rcases Joins.ownsRow_forms hown with ⟨h1, h2⟩ | ⟨g, cap', h1⟩
    · cases h1; rfl
    · cases h1; exact HN.out
  have a0 := R1.c0
  have a1 := R1.c1
  have a2 := R2.c0
  have a3 := R2.c1
  have f0 := R1.f 0
  have f1 := R1.f 1
  have f2 := R2.f 0
  have f3 := R2.f 1
  clear hb2 hown R1 R2
  go_wp2_with fail
  refine bodyPost_ret (v := .tuple #[.agg #[.int .i64 0, .int .i64 0], .agg #[.int .i64 0, .int .i64 0], .bool false]) (by simp [results, Tryd.results21, go_sem, a0, a1, a2, a3, f0, f1, f2, f3]) rfl ⟨0, 0, 0, 0, false, rfl, HS.out, ?_⟩
  exact (((B2.out.setCell (by simp) _).setCell (by simp) _).setCell (by simp; omega) _).setCell (by simp; omega) _

set_option maxHeartbeats 2000000 in
set_option maxRecDepth 100000 in
theorem spec_Box_no (v : Value) (ss : List ByteArray) (w : World) (hN : ss.length ≤ maxLen) (hz : ∀ s ∈ ss, s.size ≤ maxLen) (hv : Sl w v ss) (hok : validB ss = false) :
    Calls Tryd.prog 21 #[.agg #[v]] w (SaysBox ss w) := by
  obtain ⟨W0, hW0, hb0, hl0, hp0, hp1, hp2⟩ := begin_box w v
  have hcv : W0.cell? ⟨w.heap.size, 0, none⟩ = some v := cell_of_one hp0
  have CIs : Hid (Calls Tryd.prog 45 #[.pointer (some ⟨w.heap.size, 0, none⟩)] W0 (SaysB false W0)) := by
    have := l01Is_any w.heap.size 0 v ss W0 hcv (hv.below hb0) hN hz
    rwa [hok] at this
  have HS : Hid (BoxSays ss 0 0 0 0 false) := Or.inr ⟨rfl, rfl, rfl, rfl, rfl, fun h => by rw [hok] at h; cases h⟩
  have HW := Lib.hid hW0
  have B0 := Lib.hid hb0
  have P1 : Hid (SpV W0 (w.heap.size + 1) 0 0) := hp1
  have P2 : Hid (SpV W0 (w.heap.size + 1 + 1) 0 0) := hp2
  clear hW0 hb0 hp0 hp1 hp2 hcv hok hv
  go_enter Tryd.func21, Tryd.ntmps21
  go_wp2_with fail
  rw [HW.out]
  refine CIs.out.mono ?_
  rintro e w1 ⟨rfl, hb1⟩
  have B1 := Lib.hid (B0.out.trans (hb1.mono B0.out.size))
  have R1 := P1.out.below hb1
  have R2 := P2.out.below hb1
  have a0 := R1.c0
  have a1 := R1.c1
  have a2 := R2.c0
  have a3 := R2.c1
  have f0 := R1.f 0
  have f1 := R1.f 1
  have f2 := R2.f 0
  have f3 := R2.f 1
  clear hb1 R1 R2
  go_wp2_with fail
  refine bodyPost_ret (v := .tuple #[.agg #[.int .i64 0, .int .i64 0], .agg #[.int .i64 0, .int .i64 0], .bool false]) (by simp [results, Tryd.results21, go_sem, a0, a1, a2, a3, f0, f1, f2, f3]) rfl ⟨0, 0, 0, 0, false, rfl, HS.out, ?_⟩
  exact (((B1.out.setCell (by simp) _).setCell (by simp) _).setCell (by simp; omega) _).setCell (by simp; omega) _

theorem spec_Box (v : Value) (ss : List ByteArray) (w : World) (hN : ss.length ≤ maxLen) (hz : ∀ s ∈ ss, s.size ≤ maxLen) (hv : Sl w v ss) :
    Calls Tryd.prog 21 #[.agg #[v]] w (SaysBox ss w) := by
  cases hok : validB ss with
  | false => exact spec_Box_no v ss w hN hz hv hok
  | true =>
    by_cases hpos : 0 < (spL (pixF ss) (row0 ss).size ((row0 ss).size * ss.length)).length
    · exact spec_Box_yes v ss w hN hz hv hok hpos
    · exact spec_Box_none v ss w hN hz hv hok (by omega)
end Go.Proofs.YtmfaonddhmhjeaaDoor
