/- Contracts of single functions, and plain lemmas, on which the exact laws of this seat rest; each holds under the conditions that it states. -/
import Derived.Test.YtlmmeefcnjcceaaDoorOq
import Derived.Test.YtlmmeefcnjcceaaDoorQk
import Derived.Maps.AppendAt
namespace Go.Proofs.YtlmmeefcnjcceaaDoor
set_option linter.unusedVariables false
set_option linter.unusedSimpArgs false
open Go.RowKit Go.Maps

/-- the corners of the first k steps at which a turn is -/
def crK (X Y : Int) (s : ByteArray) : Nat → List (Int × Int)
  | 0 => []
  | k + 1 => crK X Y s k ++ (if trn s k = 0 then [] else [(px X s k, py Y s k)])
theorem crK_len (X Y : Int) (s : ByteArray) : ∀ k, (crK X Y s k).length ≤ k
  | 0 => Nat.le_refl _
  | k + 1 => by
    have := crK_len X Y s k
    simp only [crK, List.length_append]
    split <;> simp <;> omega
theorem crK_no {X Y : Int} {s : ByteArray} {k : Nat} (h : trn s k = 0) : crK X Y s (k + 1) = crK X Y s k := by simp [crK, h]
theorem crK_yes {X Y : Int} {s : ByteArray} {k : Nat} (h : trn s k ≠ 0) : crK X Y s (k + 1) = crK X Y s k ++ [(px X s k, py Y s k)] := by simp [crK, h]
noncomputable def crV (X Y : Int) (s : ByteArray) : List (Int × Int) := if okb X Y s = true then crK X Y s s.size else []
theorem crV_len (X Y : Int) (s : ByteArray) : (crV X Y s).length ≤ 600 := by
  unfold crV
  split
  · rename_i h
    exact Nat.le_trans (crK_len X Y s s.size) (okb_of h).2.1
  · simp
theorem tuI_zero {t : Int} (h : t = 0) : tuI t = 0 := by unfold tuI; rw [if_neg (by omega), if_neg (by omega)]
theorem tuI_ne {t : Int} (h : t ≠ 0) (h2 : t ≠ 2) (hr : 0 ≤ t ∧ t < 4) : tuI t ≠ 0 := by unfold tuI; split; omega; rw [if_pos (by omega)]; omega

/-- the world in l04Corners's loop: the place in a variable, the list of the call's own -/
structure CoSt (w wx : World) (A : Nat) (v : Value) (L : List (Int × Int)) (x y : Int) : Prop where
  at' : wx.heap[A]? = some (.cells #[.int .i64 x, .int .i64 y] 28 (0, 0))
  own : OwnS wx w.heap.size v L
  bel : Below w.heap.size w wx
  ge : w.heap.size ≤ A
  ne : v.ownBlock ≠ some A
section
variable {w wx wy : World} {A : Nat} {v : Value} {L : List (Int × Int)} {x y : Int}
theorem CoSt.below (h : CoSt w wx A v L x y) (hb : Below wx.heap.size wx wy) : CoSt w wy A v L x y :=
  ⟨(hb.block A (Array.getElem?_eq_some_iff.1 h.at').1).trans h.at', own_below h.own hb, h.bel.trans (hb.mono h.bel.size), h.ge, h.ne⟩
theorem CoSt.drew (h : CoSt w wx A v L x y) : CoSt w wx.drew A v L x y := h.below (Below.refl _ _).drew
theorem CoSt.c0 (h : CoSt w wx A v L x y) : wx.cell? ⟨A, 0, none⟩ = some (.int .i64 x) := by rw [Joins.cell_of_block h.at' 0]; rfl
theorem CoSt.c1 (h : CoSt w wx A v L x y) : wx.cell? ⟨A, 1, none⟩ = some (.int .i64 y) := by rw [Joins.cell_of_block h.at' 1]; rfl
theorem CoSt.f (h : CoSt w wx A v L x y) (o : Nat) : wx.frozen? ⟨A, o, none⟩ = false := by simp [World.frozen?, h.at']
theorem CoSt.lt (h : CoSt w wx A v L x y) : A < wx.heap.size := (Array.getElem?_eq_some_iff.1 h.at').1
theorem CoSt.set0 (h : CoSt w wx A v L x y) (u : Int) : CoSt w (wx.setCell ⟨A, 0, none⟩ (.int .i64 u)) A v L u y :=
  ⟨Lib.heap_setCell_same (i := 0) h.at' _, ownsRow_setCell_other (a := ⟨A, 0, none⟩) h.own h.ne _, h.bel.setCell h.ge _, h.ge, h.ne⟩
theorem CoSt.set1 (h : CoSt w wx A v L x y) (u : Int) : CoSt w (wx.setCell ⟨A, 1, none⟩ (.int .i64 u)) A v L x u :=
  ⟨Lib.heap_setCell_same (i := 1) h.at' _, ownsRow_setCell_other (a := ⟨A, 1, none⟩) h.own h.ne _, h.bel.setCell h.ge _, h.ge, h.ne⟩
/-- one corner more -/
theorem CoSt.more {v' : Value} (h : CoSt w wx A v L x y) (a b : Int)
    (hown' : wy.ownsRow w.heap.size 28 2 v' (L.length + 1) (flat2 L ++ [.int .i64 a, .int .i64 b]))
    (hgr : (wx.alloc (.cells #[.int .i64 a, .int .i64 b] 28)).grownBy wy v.ownBlock)
    (hor : v'.ownBlock = v.ownBlock ∨ v'.ownBlock = some (wx.heap.size + 1)) : CoSt w wy A v' (L ++ [(a, b)]) x y := by
  have hl := h.lt
  have o1 := World.ownsRow.alloc h.own (.cells #[.int .i64 a, .int .i64 b] 28)
  refine ⟨?_, ?_, (h.bel.alloc h.bel.size _).grown hgr (by have := h.bel.size; simp; omega) (fun k hk => (o1.lt k hk).1), h.ge, ?_⟩
  · rw [hgr.block A (by simp; omega) (fun e => h.ne e.symm), Below.heap_alloc _ _ _ hl]
    exact h.at'
  · unfold OwnS
    rw [flat2_snoc, List.length_append]
    exact hown'
  · rcases hor with e | e
    · rw [e]; exact h.ne
    · rw [e]
      intro e2
      have := Option.some.inj e2
      omega
end

set_option maxHeartbeats 2000000 in
set_option maxRecDepth 100000 in
theorem l04Corners_any (pb : Nat) (X Y : Int) (s : ByteArray) (w : World) (hok : OKb X Y s) (hp : BAt w pb X Y s) :
    Calls Tryd.prog 43 #[.pointer (some ⟨pb, 0, none⟩)] w fun e w' => ∃ ao n cap, e = .returned (.slice ao n cap) ∧ OwnS w' w.heap.size (.slice ao n cap) (crK X Y s s.size) ∧ Below w.heap.size w w' := by
  obtain ⟨i0, hi, hz0, hz1, hz2⟩ := info_parts infoSp
  have h6 : s.size ≤ 600 := hok.2.1
  have HG := Lib.hid hok.2.2.1
  have HT2 := Lib.hid hok.2.2.2.2.2
  have HP := Lib.hid hp
  have c0 := hp.c0
  have c1 := hp.c1
  have hl := hp.lt
  clear hok hp
  go_enter Tryd.func43, Tryd.ntmps43
  go_wp2
  go_loopw [3, 5] (fun v iv wr => ∃ k : Nat, k ≤ s.size ∧ iv = .int .i64 k ∧ (∃ ao m cap, v = .slice ao m cap) ∧ Hid (CoSt w wr (w.heap.size + 1) v (crK X Y s k) (px X s k) (py Y s k))) (fun _ iv _ => s.size - (intOf iv).toNat)
  case atStart =>
    refine ⟨0, Nat.zero_le _, rfl, ⟨_, _, _, rfl⟩, ?_⟩
    have o := World.ownsRow_lit (base := w.heap.size) (e := 28) (size := 2) w #[] 0 (Nat.le_refl _) (by unfold maxLen; omega) rfl
    have h1 := heap_alloc_last (w.alloc (.cells #[] 28)) (.cells #[.int .i64 X, .int .i64 Y] 28)
    simp only [World.size_alloc] at h1
    exact ⟨h1, World.ownsRow.alloc o _, Joins.below_alloc2 _ _ _, by omega, by intro e; simp [Value.ownBlock] at e⟩
  case round =>
    obtain ⟨k, hk, rfl, ⟨ao, m, cap, rfl⟩, HS⟩ := hrel
    have HPw : Hid (∀ W, Below w.heap.size w W → BAt W pb X Y s) := fun W hb => HP.out.below hb
    have hsz := HS.out.bel.size
    by_cases hlt : k < s.size
    · have klt : (k : Int) < (s.size : Int) := by omega
      have cs2 := (HPw.out _ HS.out.bel).c2
      have CI := Lib.hid (way_at s k hlt)
      have CT := Lib.hid (l04Turn_any pb X Y s k wr (HPw.out _ HS.out.bel) hlt h6 (HG.out k hlt).1 (HG.out _ (prv_lt s k (by omega))).1)
      have PX : Hid (px X s (k + 1) = px X s k + dX (wy s k)) := rfl
      have PY : Hid (py Y s (k + 1) = py Y s k + dY (wy s k)) := rfl
      have kc := (HG.out k hlt).2.1
      have HLen := crK_len X Y s k
      unfold corn at kc
      obtain ⟨kc1, kc2, kc3, kc4⟩ := kc
      have rX := dX_range (wy s k)
      have rY := dY_range (wy s k)
      go_wp2_with fail
      refine CT.out.mono ?_
      rintro e w1 ⟨rfl, hb1⟩
      have H1 := Lib.hid (HS.out.below hb1)
      have hbw1 := H1.out.bel.size
      clear hb1 cs2 CT HS hsz
      by_cases ht : trn s k = 0
      · have hb : (tuI (trn s k) != 0) = false := by rw [tuI_zero ht]; rfl
        have HC := Lib.hid (crK_no (X := X) (Y := Y) ht)
        obtain ⟨u, hu⟩ : ∃ u, tuI (trn s k) = u := ⟨_, rfl⟩
        rw [hu] at hb ⊢
        obtain ⟨x, hx⟩ : ∃ x, px X s k = x := ⟨_, rfl⟩
        obtain ⟨y, hy⟩ : ∃ x, py Y s k = x := ⟨_, rfl⟩
        obtain ⟨d, hd⟩ : ∃ x, wy s k = x := ⟨_, rfl⟩
        rw [hx] at H1 PX kc1 kc2
        rw [hy] at H1 PY kc3 kc4
        rw [hd] at CI PX PY rX rY
        have H2 : Hid (CoSt w w1 (w.heap.size + 1) (.slice ao m cap) (crK X Y s (k + 1)) x y) := by show CoSt _ _ _ _ _ _ _; rw [HC.out]; exact H1.out
        have cs2 := (HPw.out _ H2.out.bel).c2
        clear hx hy hd hu ht H1 HC
        go_wp2_with fail
        refine (CI.out _).mono ?_
        rintro e w' ⟨rfl, rfl⟩
        go_upto_region 9 with fail
        go_cut [] (fun wx => CoSt w wx (w.heap.size + 1) (.slice ao m cap) (crK X Y s (k + 1)) (x + dX d) y)
        case first =>
          have q0 := H2.out.c0
          have q3 := H2.out.f 0
          have q4 := H2.out.lt
          have e0 : IntKind.i64.wrap (x + dX d) = x + dX d := IntWalk.i64_in _ (by omega)
          go_region_with (go_at_call 40; refine (l04X_any _ _).mono ?_; rintro e w' ⟨rfl, rfl⟩)
          all_goals (go_wp2_with fail; go_meet)
          all_goals first | exact H2.out.set0 _ | exact (H2.out.set0 _).drew | exact H2.out.drew.set0 _
        have H3 := Lib.hid hcut
        clear hcut H2 cs2
        go_upto_region 10 with fail
        have q0 := H3.out.c1
        have q3 := H3.out.f 1
        have q4 := H3.out.lt
        have e0 : IntKind.i64.wrap (y + dY d) = y + dY d := IntWalk.i64_in _ (by omega)
        go_region_with (go_at_call 39; refine (l04Y_any _ _).mono ?_; rintro e w' ⟨rfl, rfl⟩)
        all_goals go_wp2
        all_goals (refine ⟨⟨k + 1, by omega, by go_num, ⟨_, _, _, rfl⟩, by rw [PX.out, PY.out]; first | exact H3.out.set1 _ | exact (H3.out.set1 _).drew | exact H3.out.drew.set1 _⟩, by simp [intOf]; omega⟩)
      · have hb : (tuI (trn s k) != 0) = true := bne_iff_ne.2 (tuI_ne ht (HT2.out k hlt) (trn_range s k))
        have HC := Lib.hid (crK_yes (X := X) (Y := Y) ht)
        obtain ⟨u, hu⟩ : ∃ u, tuI (trn s k) = u := ⟨_, rfl⟩
        rw [hu] at hb ⊢
        obtain ⟨x, hx⟩ : ∃ x, px X s k = x := ⟨_, rfl⟩
        obtain ⟨y, hy⟩ : ∃ x, py Y s k = x := ⟨_, rfl⟩
        obtain ⟨d, hd⟩ : ∃ x, wy s k = x := ⟨_, rfl⟩
        obtain ⟨L, hL⟩ : ∃ L, crK X Y s k = L := ⟨_, rfl⟩
        rw [hx] at H1 PX kc1 kc2 HC
        rw [hy] at H1 PY kc3 kc4 HC
        rw [hd] at CI PX PY rX rY
        rw [hL] at H1 HC HLen
        have q0 := H1.out.c0
        have q1 := H1.out.c1
        have qlt := H1.out.lt
        have hlen : L.length ≤ 600 := by omega
        clear hx hy hd hu ht hL HLen
        go_wp2_with (at_builtin; refine wpList_append_own_at _ rfl _ _ 35 rfl w.heap.size 28 i0 (.agg #[.int .i64 0, .int .i64 0]) 2 16 Tryd.underlying35 hi hz0 hz1 hz2 rfl (by decide) _ _ _ rfl (World.ownsRow.alloc H1.out.own _) ⟨w1.heap.size, 0, none⟩ 1 1 [.int .i64 x, .int .i64 y] rfl rfl (two_cells_new _ _ _ _) (by intro u hu; simp at hu; rcases hu with rfl | rfl <;> rfl) (by unfold maxLen; omega) (by omega) (by simp; omega) ?_)
        intro v' w2 hown' hgr _ hor
        obtain ⟨g', c', rfl⟩ := Joins.ownsRow_form hown' (by omega)
        have H2 : Hid (CoSt w w2 (w.heap.size + 1) (.slice (some ⟨g', 0, none⟩) (L.length + 1) c') (crK X Y s (k + 1)) x y) := by
          show CoSt _ _ _ _ _ _ _
          rw [HC.out]; exact H1.out.more x y hown' hgr hor
        have cs2 := (HPw.out _ H2.out.bel).c2
        have hs2 := H2.out.bel.size
        clear hown' hgr hor H1 HC q0 q1 qlt
        go_wp2_with fail
        refine (CI.out _).mono ?_
        rintro e w' ⟨rfl, rfl⟩
        go_upto_region 9 with fail
        go_cut [] (fun wx => CoSt w wx (w.heap.size + 1) (.slice (some ⟨g', 0, none⟩) (L.length + 1) c') (crK X Y s (k + 1)) (x + dX d) y)
        case first =>
          have q0 := H2.out.c0
          have q3 := H2.out.f 0
          have q4 := H2.out.lt
          have e0 : IntKind.i64.wrap (x + dX d) = x + dX d := IntWalk.i64_in _ (by omega)
          go_region_with (go_at_call 40; refine (l04X_any _ _).mono ?_; rintro e w' ⟨rfl, rfl⟩)
          all_goals (go_wp2_with fail; go_meet)
          all_goals first | exact H2.out.set0 _ | exact (H2.out.set0 _).drew | exact H2.out.drew.set0 _
        have H3 := Lib.hid hcut
        clear hcut H2 cs2
        go_upto_region 10 with fail
        have q0 := H3.out.c1
        have q3 := H3.out.f 1
        have q4 := H3.out.lt
        have e0 : IntKind.i64.wrap (y + dY d) = y + dY d := IntWalk.i64_in _ (by omega)
        go_region_with (go_at_call 39; refine (l04Y_any _ _).mono ?_; rintro e w' ⟨rfl, rfl⟩)
        all_goals go_wp2
        all_goals (refine ⟨⟨k + 1, by omega, by go_num, ⟨_, _, _, rfl⟩, by rw [PX.out, PY.out]; first | exact H3.out.set1 _ | exact (H3.out.set1 _).drew | exact H3.out.drew.set1 _⟩, by simp [intOf]; omega⟩)
    · obtain rfl : k = s.size := by omega
      have cs2 := (HPw.out _ HS.out.bel).c2
      go_wp2
      go_ret
      exact ⟨_, _, _, rfl, HS.out.own, HS.out.bel⟩

set_option maxHeartbeats 1000000 in
theorem spec_CornersOfBorder (X Y : Int) (s : ByteArray) (w : World) (hs : s.size ≤ 1048576) : Calls Tryd.prog 18 #[.agg #[.int .i64 X, .int .i64 Y, .string s]] w (SaysSp (crV X Y s) (okb X Y s) w) := by
  have C := Lib.hid (l04Is_any w.heap.size X Y s (w.alloc (.cells #[.int .i64 X, .int .i64 Y, .string s] 30)) hs (heap_alloc_last w _))
  by_cases hok : OKb X Y s
  · have HB : Hid (okb X Y s = true) := okb_yes hok
    have HV : Hid (crV X Y s = crK X Y s s.size) := by show _ = _; unfold crV; rw [if_pos HB.out]
    have HO := Lib.hid hok
    rw [HB.out] at C
    clear hs hok
    go_enter Tryd.func18, Tryd.ntmps18
    go_wp2_with fail
    refine C.out.mono ?_
    rintro e w1 ⟨rfl, hb⟩
    have HW := Lib.hid ((Joins.below_alloc1 w (.cells #[.int .i64 X, .int .i64 Y, .string s] 30)).trans (hb.mono (by simp)))
    have HA : Hid (BAt w1 w.heap.size X Y s) := BAt.below (heap_alloc_last w _) hb
    have hs1 := HW.out.size
    clear hb
    go_wp2_with fail
    refine (l04Corners_any w.heap.size X Y s w1 HO.out HA.out).mono ?_
    rintro e w2 ⟨ao, n, cap, rfl, hown, hb2⟩
    have O2 : Hid (OwnS w2 w.heap.size (.slice ao n cap) (crV X Y s)) := by
      show OwnS _ _ _ _
      rw [HV.out]; exact Joins.ownsRow_le hown hs1
    have B2 := Lib.hid (HW.out.trans (hb2.mono hs1))
    clear hown hb2
    go_wp2_with fail
    go_ret2
    rw [HB.out]
    exact ⟨_, _, _, rfl, O2.out, B2.out⟩
  · have HB : Hid (okb X Y s = false) := okb_no hok
    have HV : Hid (crV X Y s = []) := by show _ = _; unfold crV; rw [if_neg (by rw [HB.out]; simp)]
    rw [HB.out] at C
    clear hs hok
    go_enter Tryd.func18, Tryd.ntmps18
    go_wp2_with fail
    refine C.out.mono ?_
    rintro e w1 ⟨rfl, hb⟩
    have HW := Lib.hid ((Joins.below_alloc1 w (.cells #[.int .i64 X, .int .i64 Y, .string s] 30)).trans (hb.mono (by simp)))
    clear hb
    go_wp2_with fail
    go_ret2
    rw [HV.out, HB.out]
    exact ⟨_, _, _, rfl, World.ownsRow_nil _ _ _ _, HW.out⟩

set_option maxHeartbeats 2000000 in
set_option maxRecDepth 100000 in
theorem impl_CornersOfBorder (X Y : Int) (s : ByteArray) (w : World) (hs : s.size ≤ 1048576) (hm : Moves w) : Calls Tryd.prog 19 #[.agg #[.int .i64 X, .int .i64 Y, .string s]] w (SaysSp (crV X Y s) (okb X Y s) w) := by
  obtain ⟨i0, hi, hz0, hz1, hz2⟩ := info_parts infoSp
  have C := Lib.hid (routeOf_any X Y s (w.alloc (.cells #[.int .i64 X, .int .i64 Y, .string s] 30)) hs (hm.below (Joins.below_alloc1 w _)))
  clear hs hm
  go_enter Tryd.func19, Tryd.ntmps19
  go_wp2_with fail
  refine C.out.mono ?_
  rintro e w1 (⟨hok, ao, n, cap, rfl, ho, hb⟩ | ⟨hno, rfl, hb⟩)
  · have h6 : s.size ≤ 600 := hok.2.1
    have h4 : 4 ≤ s.size := hok.1
    have HB : Hid (okb X Y s = true) := okb_yes hok
    have HV : Hid (crV X Y s = crK X Y s s.size) := by show _ = _; unfold crV; rw [if_pos HB.out]
    have HW := Lib.hid ((Joins.below_alloc1 w (.cells #[.int .i64 X, .int .i64 Y, .string s] 30)).trans (hb.mono (by simp)))
    have hs1 := HW.out.size
    rcases Joins.ownsRow_forms ho with ⟨_, h0⟩ | ⟨g, cap', he⟩
    · omega
    cases he
    have HRt := Lib.hid (OwnR.at ho)
    have CT := Lib.hid (turns_any X Y s g cap w1 (by omega) h6 (OwnR.at ho) (fun j hj => (hok.2.2.1 j hj).1))
    clear hb ho hok
    go_wp2_with fail
    refine CT.out.mono ?_
    rintro e w2 ⟨b, cap2, rfl, ho2, hb2⟩
    have hbl := (ho2.lt b rfl).2
    have hcl : Hid (∀ W, Below w2.heap.size w2 W → ∀ k, k < s.size → W.cell? ⟨b, k, none⟩ = some (.int .i64 (trn s k))) := fun W hb k hk => cell_kept hb (by
      rw [ho2.cellAt k (by omega), tr_at _ _ _ hk])
    have HB2 := Lib.hid (HW.out.trans (hb2.mono hs1))
    have HR2 := Lib.hid (HRt.out.below hb2)
    have hs2 := HB2.out.size
    clear hb2 ho2 HRt CT
    go_wp2
    go_loopw [6, 19] (fun av iv wr => ∃ k : Nat, k ≤ s.size ∧ iv = .int .i64 k ∧ (∃ ao m cap, av = .slice ao m cap) ∧ Hid (OwnS wr w2.heap.size av (crK X Y s k)) ∧ Hid (Below w2.heap.size w2 wr)) (fun _ iv _ => s.size - (intOf iv).toNat)
    case atStart => exact ⟨0, Nat.zero_le _, rfl, ⟨_, _, _, rfl⟩, World.ownsRow_nil _ _ _ _, Below.refl _ _⟩
    case round =>
      obtain ⟨k, hk, rfl, ⟨ao, m, cap3, rfl⟩, HO, HBw⟩ := hrel
      have hsr := HBw.out.size
      by_cases hlt : k < s.size
      · have klt : (k : Int) < (s.size : Int) := by omega
        have q0 := hcl.out _ HBw.out k hlt
        have HLen := crK_len X Y s k
        by_cases ht : trn s k = 0
        · have hbb : (trn s k != 0) = false := by rw [ht]; rfl
          have HC := Lib.hid (crK_no (X := X) (Y := Y) ht)
          have HO2 : Hid (OwnS wr w2.heap.size (.slice ao m cap3) (crK X Y s (k + 1))) := by show OwnS _ _ _ _; rw [HC.out]; exact HO.out
          obtain ⟨t, hte⟩ : ∃ x, trn s k = x := ⟨_, rfl⟩
          rw [hte] at q0 hbb
          clear ht hte HC HO
          go_wp2
          go_roundw
          case rel => exact ⟨k + 1, by omega, by go_num, ⟨_, _, _, rfl⟩, HO2.out, HBw.out⟩
          case measure => simp [intOf]; omega
        · have hbb : (trn s k != 0) = true := bne_iff_ne.2 ht
          have HC := Lib.hid (crK_yes (X := X) (Y := Y) ht)
          have HRw := HR2.out.below HBw.out
          have hgl := HRw.1
          have p0 := (HRw.2 k hlt).1
          have p1 := (HRw.2 k hlt).2.1
          obtain ⟨t, hte⟩ : ∃ x, trn s k = x := ⟨_, rfl⟩
          rw [hte] at q0 hbb
          obtain ⟨x, hx⟩ : ∃ x, px X s k = x := ⟨_, rfl⟩
          obtain ⟨y, hy⟩ : ∃ x, py Y s k = x := ⟨_, rfl⟩
          obtain ⟨L, hL⟩ : ∃ L, crK X Y s k = L := ⟨_, rfl⟩
          rw [hx] at p0 HC
          rw [hy] at p1 HC
          rw [hL] at HO HC HLen
          have hlen : L.length ≤ 600 := by omega
          clear hx hy hL hte ht HRw HLen
          go_wp2_with (at_builtin; refine wpList_append_own _ rfl _ _ 35 rfl w2.heap.size 28 i0 (.agg #[.int .i64 0, .int .i64 0]) 2 16 Tryd.underlying35 hi hz0 hz1 hz2 rfl (by decide) _ _ _ rfl (World.ownsRow.alloc HO.out _) ⟨wr.heap.size, 0, none⟩ 1 1 [.int .i64 x, .int .i64 y] rfl rfl (two_cells_new _ _ _ _) (by intro u hu; simp at hu; rcases hu with rfl | rfl <;> rfl) (by unfold maxLen; omega) (by omega) (by simp; omega) ?_)
          intro v' w3 hown' hgr _
          have o1 := World.ownsRow.alloc HO.out (.cells #[.int .i64 x, .int .i64 y] 28)
          have B2 : Hid (Below w2.heap.size w2 w3) := (HBw.out.alloc hsr _).grown hgr (by simp; omega) (fun k hk => (o1.lt k hk).1)
          have O2 : Hid (OwnS w3 w2.heap.size v' (crK X Y s (k + 1))) := by
            show OwnS _ _ _ _
            unfold OwnS
            rw [HC.out, flat2_snoc, List.length_append]
            exact hown'
          obtain ⟨g', c', rfl⟩ := Joins.ownsRow_form hown' (by omega)
          clear hown' hgr o1
          go_wp2
          go_roundw
          case rel => exact ⟨k + 1, by omega, by go_num, ⟨_, _, _, rfl⟩, O2.out, B2.out⟩
          case measure => simp [intOf]; omega
      · obtain rfl : k = s.size := by omega
        have O3 : Hid (OwnS wr w.heap.size (.slice ao m cap3) (crV X Y s)) := by
          show OwnS _ _ _ _
          rw [HV.out]; exact Joins.ownsRow_le HO.out hs2
        have B3 := Lib.hid (HB2.out.trans (HBw.out.mono hs2))
        clear HO HBw
        go_wp2
        go_ret2
        rw [HB.out]
        exact ⟨_, _, _, rfl, O3.out, B3.out⟩
  · have HW := Lib.hid ((Joins.below_alloc1 w (.cells #[.int .i64 X, .int .i64 Y, .string s] 30)).trans (hb.mono (by simp)))
    have HB : Hid (okb X Y s = false) := okb_no hno
    have HV : Hid (crV X Y s = []) := by show _ = _; unfold crV; rw [if_neg (by rw [HB.out]; simp)]
    clear hb hno
    go_wp2_with fail
    go_ret2
    rw [HV.out, HB.out]
    exact ⟨_, _, _, rfl, World.ownsRow_nil _ _ _ _, HW.out⟩
end Go.Proofs.YtlmmeefcnjcceaaDoor
