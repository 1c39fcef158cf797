/- Contracts of single functions, and plain lemmas, on which the exact laws of this seat rest; each holds under the conditions that it states. -/
import Derived.Test.YtlmmeefcnjcceaaDoorOh
import Derived.Deep.DeepCutAuto
namespace Go.Proofs.YtlmmeefcnjcceaaDoor
set_option linter.unusedVariables false
set_option linter.unusedSimpArgs false
open Go.RowKit Go.Maps

/-- a border lies there -/
def BAt (w : World) (pb : Nat) (X Y : Int) (s : ByteArray) : Prop := w.heap[pb]? = some (.cells #[.int .i64 X, .int .i64 Y, .string s] 30 (0, 0))
theorem BAt.below {w w' : World} {pb : Nat} {X Y : Int} {s : ByteArray} (h : BAt w pb X Y s) (hb : Below w.heap.size w w') : BAt w' pb X Y s := (hb.block pb (Array.getElem?_eq_some_iff.1 h).1).trans h
theorem BAt.lt {w : World} {pb : Nat} {X Y : Int} {s : ByteArray} (h : BAt w pb X Y s) : pb < w.heap.size := (Array.getElem?_eq_some_iff.1 h).1
theorem BAt.c0 {w : World} {pb : Nat} {X Y : Int} {s : ByteArray} (h : BAt w pb X Y s) : w.cell? ⟨pb, 0, none⟩ = some (.int .i64 X) := by rw [Joins.cell_of_block h 0]; rfl
theorem BAt.c1 {w : World} {pb : Nat} {X Y : Int} {s : ByteArray} (h : BAt w pb X Y s) : w.cell? ⟨pb, 1, none⟩ = some (.int .i64 Y) := by rw [Joins.cell_of_block h 1]; rfl
theorem BAt.c2 {w : World} {pb : Nat} {X Y : Int} {s : ByteArray} (h : BAt w pb X Y s) : w.cell? ⟨pb, 2, none⟩ = some (.string s) := by rw [Joins.cell_of_block h 2]; rfl
theorem infoBo : (Tryd.prog.info? 4).map (fun i => (i.zero, i.size, i.bytes)) = some (some (.bool false), 1, 1) := by kernel_rfl

set_option maxHeartbeats 4000000 in
set_option maxRecDepth 100000 in
theorem l04Is_small (pb : Nat) (X Y : Int) (s : ByteArray) (w : World) (hs : s.size ≤ 1048576) (hp : BAt w pb X Y s) (h : ¬ (corn X Y ∧ 4 ≤ s.size ∧ s.size ≤ 600)) :
    Calls Tryd.prog 35 #[.pointer (some ⟨pb, 0, none⟩)] w (SaysB (okb X Y s) w) := by
  have HN : Hid (okb X Y s = false) := okb_no (fun ⟨h1, h2, h3, _⟩ => h ⟨(h3 0 (by omega)).2.1, h1, h2⟩)
  have c0 := hp.c0
  have c1 := hp.c1
  have c2 := hp.c2
  have HC := Lib.hid (l04Corner_any X Y w)
  by_cases hc : corn X Y
  · have hcb : cornB X Y = true := decide_eq_true hc
    rw [hcb] at HC
    by_cases h4 : 4 ≤ s.size
    · have k1 : ¬ (s.size : Int) < 4 := by omega
      have k2 : (600 : Int) < s.size := by
        have : ¬ s.size ≤ 600 := fun h6 => h ⟨hc, h4, h6⟩
        omega
      clear hp h hc hcb h4
      go_enter Tryd.func35, Tryd.ntmps35
      go_wp2_with fail
      refine HC.out.mono ?_
      rintro e w1 ⟨rfl, hb⟩
      have HB := Lib.hid hb
      clear hb
      go_wp2_with fail
      go_ret
      exact ⟨ret_bool HN.out.symm, HB.out⟩
    · have k1 : (s.size : Int) < 4 := by omega
      clear hp h hc hcb h4
      go_enter Tryd.func35, Tryd.ntmps35
      go_wp2_with fail
      refine HC.out.mono ?_
      rintro e w1 ⟨rfl, hb⟩
      have HB := Lib.hid hb
      clear hb
      go_wp2_with fail
      go_ret
      exact ⟨ret_bool HN.out.symm, HB.out⟩
  · have hcb : cornB X Y = false := decide_eq_false hc
    rw [hcb] at HC
    clear hp h hc hcb
    go_enter Tryd.func35, Tryd.ntmps35
    go_wp2_with fail
    refine HC.out.mono ?_
    rintro e w1 ⟨rfl, hb⟩
    have HB := Lib.hid hb
    clear hb
    go_wp2_with fail
    go_ret
    exact ⟨ret_bool HN.out.symm, HB.out⟩

set_option maxHeartbeats 4000000 in
set_option maxRecDepth 100000 in
theorem l04Is_mid (pb : Nat) (X Y : Int) (s : ByteArray) (w : World) (hp : BAt w pb X Y s) (hc : corn X Y) (h4 : 4 ≤ s.size) (h6 : s.size ≤ 600) :
    Calls Tryd.prog 35 #[.pointer (some ⟨pb, 0, none⟩)] w (SaysB (okb X Y s) w) := by
  obtain ⟨i0, hi, hz0, hz1, hz2⟩ := info_parts infoBo
  have c0 := hp.c0
  have c1 := hp.c1
  have c2 := hp.c2
  have HP := Lib.hid hp
  have HPl := hp.lt
  have HC := Lib.hid (l04Corner_any X Y w)
  have hcb : cornB X Y = true := decide_eq_true hc
  rw [hcb] at HC
  have k1 : ¬ (s.size : Int) < 4 := by omega
  have k2 : ¬ (600 : Int) < s.size := by omega
  have Hc := Lib.hid hc
  clear hp hc hcb
  go_enter Tryd.func35, Tryd.ntmps35
  go_wp2_with fail
  refine HC.out.mono ?_
  rintro e w1 ⟨rfl, hb1⟩
  have P1 := Lib.hid (HP.out.below hb1)
  have B1 := Lib.hid hb1
  have hs1 := hb1.size
  clear hb1 c0 c1 c2
  have c0 := P1.out.c0
  have c1 := P1.out.c1
  have c2 := P1.out.c2
  go_wp2_with (at_make; refine wpList_make_full _ rfl _ _ 105 rfl w.heap.size 4 i0 (.bool false) 1 Tryd.underlying105 hi hz0 hz1 _ _ _ _ 1156 rfl rfl rfl rfl ?c1 ?c2 hs1 ?_)
  case c1 => rw [hz2]; omega
  case c2 => unfold maxLen; omega
  intro w2 hown hgr
  rw [toList_madeCells_one] at hown
  have B2 := Lib.hid (B1.out.grown hgr hs1 (fun k h => by cases h))
  have O2 : Hid (w2.ownsRow w.heap.size 4 1 (.slice (some ⟨w1.heap.size, 0, none⟩) 1156 1156) 1156 (mdL X Y s 0)) := by
    show World.ownsRow _ _ _ _ _ _ _
    rw [mdL_zero]; exact hown
  have P2 : Hid (BAt w2 pb X Y s) := (hgr.block pb P1.out.lt (by simp)).trans P1.out
  have hs2 := B2.out.size
  clear hown hgr c0 c1 c2
  have c0 := P2.out.c0
  have c1 := P2.out.c1
  have I0 : Hid (BdSt w (w2.alloc (.cells #[.int .i64 X, .int .i64 Y] 28)) w2.heap.size w1.heap.size X Y s 0 X Y) := ⟨heap_alloc_last w2 _, O2.out.alloc _, B2.out.alloc hs2 _, hs2⟩
  go_wp2
  go_loopw [6] (fun iv wr => ∃ k : Nat, iv = .int .i64 k ∧ k ≤ s.size ∧ Hid (Good X Y s k ∧ (∀ j, j < k → trn s j ≠ 2) ∧ corn (px X s k) (py Y s k)) ∧ Hid (BdSt w wr w2.heap.size w1.heap.size X Y s k (px X s k) (py Y s k))) (fun iv _ => s.size - (intOf iv).toNat)
  case atStart => exact ⟨0, rfl, Nat.zero_le _, ⟨Good.zero X Y s, fun j h => absurd h (Nat.not_lt_zero j), Hc.out⟩, I0.out⟩
  case round =>
    clear I0 O2 c0 c1
    obtain ⟨k, rfl, hk, HG, HS⟩ := hrel
    have HPw : Hid (∀ W, Below w.heap.size w W → BAt W pb X Y s) := fun W hb => HP.out.below hb
    by_cases hlt : k < s.size
    · have klt : (k : Int) < (s.size : Int) := by omega
      have cs2 := (HPw.out _ HS.out.bel).c2
      have hkl : pb < w.heap.size := HPl
      have CI := Lib.hid (way_at s k hlt)
      have hpl := prv_lt s k (by omega)
      have CP := Lib.hid (way_at s (prv s k) hpl)
      have hp := prv_cast s k (by omega)
      have hn64 : (s.size : Int) ≤ 600 := by omega
      go_wp2_with fail
      refine (CI.out _).mono ?_
      rintro e w' ⟨rfl, rfl⟩
      go_wp2_with fail
      have e1 : IntKind.i64.wrap ((k : Int) + (s.size : Int)) = (k : Int) + (s.size : Int) := IntWalk.i64_in _ (by omega)
      have e2 : IntKind.i64.wrap ((k : Int) + (s.size : Int) - 1) = (k : Int) + (s.size : Int) - 1 := IntWalk.i64_in _ (by omega)
      have e3 : ((k : Int) + (s.size : Int) - 1).tmod (s.size : Int) = (prv s k : Int) := by rw [Int.tmod_eq_emod_of_nonneg (by omega)]; exact hp
      have e4 : ((prv s k : Int)) < (s.size : Int) := by omega
      have e5 : (0 : Int) < (s.size : Int) := by omega
      go_quiet ((go_at_call 38; exact Calls.quiet_of_same ((CP.out _).mono fun e w' ⟨he, hw⟩ => ⟨he, hw.symm⟩)))
      have HSq : Hid (BdSt w (wr.drewN nq) w2.heap.size w1.heap.size X Y s k (px X s k) (py Y s k)) := HS.out.below (Joins.below_draws _ _ _)
      obtain ⟨wq, hwq⟩ : ∃ W, wr.drewN nq = W := ⟨_, rfl⟩
      rw [hwq] at HSq ⊢
      have N1 := Lib.hid (@nb1 X Y s k hlt)
      have N2 := Lib.hid (@nb2 X Y s k hlt)
      have N3 := Lib.hid (@nb3 X Y s k hlt)
      have N4 := Lib.hid (@nb4 X Y s k hlt)
      have N5 := Lib.hid (@nb5 X Y s k hlt)
      have HM := Lib.hid (fun q => @mdB_iff X Y s k q HG.out.1 HG.out.2.2)
      have HPut := Lib.hid (fun wx q x y (h : BdSt w wx w2.heap.size w1.heap.size X Y s k x y) => @BdSt.put w wx w2.heap.size w1.heap.size X Y s k q x y h)
      have HTr : Hid (trn s k = (wy s k - wy s (prv s k) + 4) % 4) := rfl
      have PX : Hid (px X s (k + 1) = px X s k + dX (wy s k)) := rfl
      have PY : Hid (py Y s (k + 1) = py Y s k + dY (wy s k)) := rfl
      have HGs := Lib.hid (@Good.snoc X Y s k HG.out.1)
      have kc := HG.out.2.2
      have r1 := wy_range s k
      have r2 := wy_range s (prv s k)
      clear e1 e2 e3 e5 hp hwq CI CP HS cs2
      rw [PX.out, PY.out] at N5
      obtain ⟨x, hx⟩ : ∃ x, px X s k = x := ⟨_, rfl⟩
      obtain ⟨y, hy⟩ : ∃ x, py Y s k = x := ⟨_, rfl⟩
      obtain ⟨d, hd⟩ : ∃ x, wy s k = x := ⟨_, rfl⟩
      obtain ⟨d2, hd2⟩ : ∃ x, wy s (prv s k) = x := ⟨_, rfl⟩
      have HXk := Lib.hid hx
      have HYk := Lib.hid hy
      rw [hx] at HSq N4 N5 HM HPut PX kc HGs
      rw [hy] at HSq N4 N5 HM HPut PY kc HGs
      rw [hd] at N1 N4 N5 HM HPut HTr PX PY r1 HGs ⊢
      rw [hd2] at N2 HTr r2 ⊢
      clear hx hy hd hd2
      have hbw := Lib.hid HSq.out.bel
      by_cases hw : 0 ≤ d
      · by_cases hw2 : 0 ≤ d2
        · by_cases hbk : (d + 2) % 4 = d2
          · have hb : ((d + 2) % 4 == d2) = true := beq_iff_eq.2 hbk
            have HN := Lib.hid (okb_no (N3.out (by rw [HTr.out]; omega)))
            clear hbk
            go_wp2_with fail
            go_ret
            exact ⟨ret_bool HN.out.symm, hbw.out⟩
          · have hb : ((d + 2) % 4 == d2) = false := by simpa using hbk
            have HT2 : Hid (trn s k ≠ 2) := by
              show _ ≠ _
              rw [HTr.out]; omega
            clear hbk
            have hr := ix_range kc ⟨hw, r1.2⟩
            obtain ⟨q, hq⟩ := Int.eq_ofNat_of_zero_le hr.1
            have hq2 : q < 1156 := by omega
            have HMq := Lib.hid (HM.out q hw hq)
            have HPq := Lib.hid (fun wx x y h => HPut.out wx q x y h hq)
            have hqe : (y * 17 + x) * 4 + d = (q : Int) := hq
            have kq : (q : Int) < 1156 := by omega
            have cm : wq.cell? ⟨w1.heap.size, q, none⟩ = some (.bool (mdB X Y s k q)) := by
              rw [HSq.out.own.cellAt q (by omega), mdL_at _ _ _ _ _ hq2]
            have c0 := HSq.out.c0
            have c1 := HSq.out.c1
            have fm := HSq.out.own.frozenAt q
            have rX := dX_range d
            have rY := dY_range d
            obtain ⟨kc1, kc2, kc3, kc4⟩ := kc
            clear hq hr HM HPut
            by_cases hdup : ∃ i : Nat, i < k ∧ px X s i = x ∧ py Y s i = y ∧ wy s i = d
            · rw [HMq.out.2 hdup] at cm
              have HN := Lib.hid (okb_no (N4.out hdup))
              clear hdup
              go_wp2_with fail
              go_ret
              exact ⟨ret_bool HN.out.symm, hbw.out⟩
            · have hm : mdB X Y s k q = false := by
                cases e : mdB X Y s k q with
                | false => rfl
                | true => exact absurd (HMq.out.1 e) hdup
              rw [hm] at cm
              have HG2 : Hid (Good X Y s (k + 1)) := HGs.out hw ⟨kc1, kc2, kc3, kc4⟩ (fun i hi e => hdup ⟨i, hi, e⟩)
              clear hm hdup
              go_upto_region 17 with fail
              have HP2 := Lib.hid (HPq.out _ _ _ HSq.out)
              obtain ⟨wp, hwp⟩ : ∃ W, wq.setCell ⟨w1.heap.size, q, none⟩ (.bool true) = W := ⟨_, rfl⟩
              rw [hwp] at HP2 ⊢
              clear hwp cm c0 c1 fm hqe HSq HPq HMq
              go_cut [] (fun wx => BdSt w wx w2.heap.size w1.heap.size X Y s (k + 1) (x + dX d) y)
              case first =>
                have q0 := HP2.out.c0
                have q3 := HP2.out.f 0
                have q4 := HP2.out.lt
                have e0 : IntKind.i64.wrap (x + dX d) = x + dX d := IntWalk.i64_in _ (by omega)
                go_region_with (go_at_call 40; refine (l04X_any _ _).mono ?_; rintro e w' ⟨rfl, rfl⟩)
                all_goals (go_wp2_with fail; go_meet)
                all_goals first | exact HP2.out.set0 _ | exact (HP2.out.set0 _).drew | exact HP2.out.drew.set0 _
              have H1 := Lib.hid hcut
              clear hcut HP2
              go_upto_region 18 with fail
              go_cut [] (fun wx => BdSt w wx w2.heap.size w1.heap.size X Y s (k + 1) (x + dX d) (y + dY d))
              case first =>
                have q0 := H1.out.c1
                have q3 := H1.out.f 1
                have q4 := H1.out.lt
                have e0 : IntKind.i64.wrap (y + dY d) = y + dY d := IntWalk.i64_in _ (by omega)
                go_region_with (go_at_call 39; refine (l04Y_any _ _).mono ?_; rintro e w' ⟨rfl, rfl⟩)
                all_goals (go_wp2_with fail; go_meet)
                all_goals first | exact H1.out.set1 _ | exact (H1.out.set1 _).drew | exact H1.out.drew.set1 _
              have H2 := Lib.hid hcut
              clear hcut H1
              have q0 := H2.out.c0
              have q1 := H2.out.c1
              go_wp2_with fail
              refine (l04Corner_any _ _ _).mono ?_
              rintro e w9 ⟨rfl, hb9⟩
              have H9 := Lib.hid (H2.out.below hb9)
              clear hb9 q0 q1 H2
              by_cases hcn : corn (x + dX d) (y + dY d)
              · have hcb : cornB (x + dX d) (y + dY d) = true := decide_eq_true hcn
                rw [hcb]
                have HI : Hid (Good X Y s (k + 1) ∧ (∀ j, j < k + 1 → trn s j ≠ 2) ∧ corn (px X s (k + 1)) (py Y s (k + 1))) := ⟨HG2.out, fun j hj => by
                  by_cases e : j = k
                  · subst e; exact HT2.out
                  · exact HG.out.2.1 j (by omega), by rw [PX.out, PY.out]; exact hcn⟩
                have H9' : Hid (BdSt w w9 w2.heap.size w1.heap.size X Y s (k + 1) (px X s (k + 1)) (py Y s (k + 1))) := by
                  show BdSt _ _ _ _ _ _ _ _ _ _
                  rw [PX.out, PY.out]; exact H9.out
                clear hcn hcb
                go_wp2_with fail
                go_roundw
                case rel => exact ⟨k + 1, by go_num, by omega, HI.out, H9'.out⟩
                case measure => simp [intOf]; omega
              · have hcb : cornB (x + dX d) (y + dY d) = false := decide_eq_false hcn
                rw [hcb]
                have HN := Lib.hid (okb_no (N5.out hcn))
                clear hcn hcb
                go_wp2_with fail
                go_ret
                exact ⟨ret_bool HN.out.symm, H9.out.bel⟩
        · have HN := Lib.hid (okb_no (N2.out hw2))
          go_wp2_with fail
          go_ret
          exact ⟨ret_bool HN.out.symm, hbw.out⟩
      · have HN := Lib.hid (okb_no (N1.out hw))
        go_wp2_with fail
        go_ret
        exact ⟨ret_bool HN.out.symm, hbw.out⟩
    · obtain rfl : k = s.size := by omega
      have c0 := HS.out.c0
      have c1 := HS.out.c1
      have P9 := HPw.out _ HS.out.bel
      have d0 := P9.c0
      have d1 := P9.c1
      have HYes : Hid (px X s s.size = X ∧ py Y s s.size = Y → okb X Y s = true) := fun h => okb_yes ⟨h4, h6, HG.out.1, h.1, h.2, HG.out.2.1⟩
      have HNo : Hid (¬ (px X s s.size = X ∧ py Y s s.size = Y) → okb X Y s = false) := fun h => okb_no fun ⟨_, _, _, h1, h2, _⟩ => h ⟨h1, h2⟩
      obtain ⟨x, hx⟩ : ∃ x, px X s s.size = x := ⟨_, rfl⟩
      obtain ⟨y, hy⟩ : ∃ x, py Y s s.size = x := ⟨_, rfl⟩
      rw [hx] at c0 HYes HNo
      rw [hy] at c1 HYes HNo
      clear hx hy P9
      by_cases e1 : x = X
      · by_cases e2 : y = Y
        · have HN := Lib.hid (HYes.out ⟨e1, e2⟩)
          go_wp2_with fail
          go_quiet (fail)
          go_wp2
          go_ret
          exact ⟨ret_bool HN.out.symm, HS.out.bel.trans (Joins.below_draws _ _ _)⟩
        · have HN := Lib.hid (HNo.out (fun h => e2 h.2))
          have b2 := eqI_no e2
          go_wp2_with fail
          go_quiet (fail)
          go_wp2
          go_ret
          exact ⟨ret_bool HN.out.symm, HS.out.bel.trans (Joins.below_draws _ _ _)⟩
      · have HN := Lib.hid (HNo.out (fun h => e1 h.1))
        have b2 := eqI_no e1
        go_wp2_with fail
        go_quiet (fail)
        go_wp2
        go_ret
        exact ⟨ret_bool HN.out.symm, HS.out.bel.trans (Joins.below_draws _ _ _)⟩

theorem l04Is_any (pb : Nat) (X Y : Int) (s : ByteArray) (w : World) (hs : s.size ≤ 1048576) (hp : BAt w pb X Y s) :
    Calls Tryd.prog 35 #[.pointer (some ⟨pb, 0, none⟩)] w (SaysB (okb X Y s) w) := by
  by_cases h : corn X Y ∧ 4 ≤ s.size ∧ s.size ≤ 600
  · exact l04Is_mid pb X Y s w hp h.1 h.2.1 h.2.2
  · exact l04Is_small pb X Y s w hs hp h
end Go.Proofs.YtlmmeefcnjcceaaDoor
