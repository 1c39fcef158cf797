/- Contracts of single functions, and plain lemmas, on which the exact laws of this seat rest; each holds under the conditions that it states. -/
import Derived.Test.YtenbhnfajjknkaaDoorW2
import Derived.Test.YtenbhnfajjknkaaDoorMp
import Derived.Test.YtenbhnfajjknkaaDoorLf
import Derived.Deep.QuietTactic
import Derived.BigQuiet
namespace Go.Proofs.YtenbhnfajjknkaaDoor
set_option linter.unusedVariables false
set_option linter.unusedSimpArgs false
open Go.RowKit

/-- where the walk of l03Reach stands -/
structure RchSt (w wr : World) (g n : Nat) (qv : Value) (bs : List Bool) (Q : List (Int × Int)) : Prop where
  list : wr.ownsRow (w.heap.size + 1) 4 1 (.slice (some ⟨g, 0, none⟩) n n) n (boolV bs)
  q : OwnS wr (w.heap.size + 1) qv Q
  pic : wr.heap[w.heap.size]? = some (.cells #[.slice none 0 0] 30 (0, 0))
  bel : Below w.heap.size w wr
section
variable {w wr wr' : World} {g n : Nat} {qv : Value} {bs : List Bool} {Q : List (Int × Int)}
theorem RchSt.below (h : RchSt w wr g n qv bs Q) (hb : Below wr.heap.size wr wr') : RchSt w wr' g n qv bs Q :=
  ⟨own_below h.list hb, own_below h.q hb, (hb.block _ (Array.getElem?_eq_some_iff.1 h.pic).1).trans h.pic, h.bel.trans (hb.mono h.bel.size)⟩
theorem RchSt.mark (h : RchSt w wr g n qv bs Q) {j : Nat} (hj : j < n) (hl : bs.length = n) : RchSt w (wr.setCell ⟨g, j, none⟩ (.bool true)) g n qv (bs.set j true) Q := by
  have hgl := h.list.lt g rfl
  have hst := (h.list.stored j (.bool true)).1
  have e : (boolV bs).set j (.bool true) = boolV (bs.set j true) := by unfold boolV; rw [List.map_set]
  rw [e] at hst
  refine ⟨hst, ?_, ?_, h.bel.setCell (p := ⟨g, j, none⟩) (Nat.le_trans (Nat.le_succ _) hgl.1) _⟩
  · refine own_keep' h.q fun k hk => ?_
    refine heap_setCell_other wr ⟨g, j, none⟩ k _ (fun e2 => ?_)
    have := own_two' h.list h.q (by decide) g rfl
    exact this (by rw [hk]; exact congrArg some e2)
  · rw [heap_setCell_other wr ⟨g, j, none⟩ _ _ (fun e => by have e2 : w.heap.size = g := e; omega)]; exact h.pic
where
  own_keep' {w w' : World} {base n s : Nat} {e : TypeId} {v : Value} {xs : List Value} (h : w.ownsRow base e s v n xs) (hk : ∀ k, v.ownBlock = some k → w'.heap[k]? = w.heap[k]?) : w'.ownsRow base e s v n xs := by
    obtain ⟨h1, h2⟩ := h
    refine ⟨h1, ?_⟩
    rcases h2 with h2 | ⟨g, cap, cur, hv, hg, hh, r⟩
    · exact Or.inl h2
    · exact Or.inr ⟨g, cap, cur, hv, hg, (hk g (by subst hv; rfl)).trans hh, r⟩
  own_two' {w : World} {base base2 n n2 s s2 : Nat} {e e2 : TypeId} {v v2 : Value} {xs xs2 : List Value} (h : w.ownsRow base e s v n xs) (h2 : w.ownsRow base2 e2 s2 v2 n2 xs2) (he : e ≠ e2) : ∀ k, v.ownBlock = some k → v2.ownBlock ≠ some k := by
    intro k hk
    rcases h.2 with ⟨hv, _⟩ | ⟨g, cap, cur, hv, _, hg, _⟩
    · subst hv; simp [Value.ownBlock] at hk
    · subst hv
      obtain rfl : g = k := by simpa [Value.ownBlock] using hk
      exact own_ne h2 hg he
/-- one more stands in the queue -/
theorem RchSt.queued (h : RchSt w wr g n qv bs Q) {x y : Int} {qv' : Value} {w' : World} (hown : w'.ownsRow (w.heap.size + 1) 79 2 qv' (Q.length + 1) (flat2 Q ++ [.int .i64 x, .int .i64 y]))
    (hg : (wr.alloc (.cells #[.int .i64 x, .int .i64 y] 79)).grownBy w' qv.ownBlock) : RchSt w w' g n qv' bs (Q ++ [(x, y)]) := by
  have h1 := h.below (Joins.below_alloc1 wr (.cells #[.int .i64 x, .int .i64 y] 79))
  refine ⟨?_, ?_, ?_, ?_⟩
  · refine h1.list.kept hg ?_
    right
    intro e
    exact RchSt.mark.own_two' h1.list h1.q (by decide) g rfl e.symm
  · unfold OwnS
    rw [flat2_snoc, List.length_append]
    exact hown
  · rw [hg.block _ (Array.getElem?_eq_some_iff.1 h1.pic).1 (fun e => by have := (h1.q.lt _ e.symm).1; omega)]; exact h1.pic
  · exact h1.bel.grown hg h1.bel.size (fun k hk => by have := (h1.q.lt k hk).1; omega)
end
end Go.Proofs.YtenbhnfajjknkaaDoor

/- Contracts of single functions, and plain lemmas, on which the exact laws of this seat rest; each holds under the conditions that it states. -/
namespace Go.Proofs.YtenbhnfajjknkaaDoor
set_option linter.unusedVariables false
set_option linter.unusedSimpArgs false
open Go.RowKit

/-- a picture of what is reached -/
def ReachPic (p : Int → Int → Bool) (S xs : List (Int × Int)) (a b : Nat) (w : World) (e : Ending) (w' : World) : Prop :=
  ∃ bs : List Bool, bs.length = a * b ∧ (∀ x y : Nat, x < a → y < b → (bs.getD (y * a + x) false = true ↔ Reach p S xs ((x : Int), (y : Int)))) ∧ TookPic w (mkPic a b (fun y x => bs.getD (y * a + x) false)) e w'

/-- the row of steps, apart from the queue and from the marks -/
structure StepsAt (wr : World) (sg sn scap gl : Nat) (S : List (Int × Int)) (qv : Value) : Prop where
  own : OwnS wr 0 (.slice (some ⟨sg, 0, none⟩) sn scap) S
  ne : ∀ k, qv.ownBlock = some k → k ≠ sg
  gne : sg ≠ gl
section
variable {wr wr' : World} {sg sn scap gl : Nat} {S : List (Int × Int)} {qv qv' : Value}
theorem StepsAt.below (h : StepsAt wr sg sn scap gl S qv) (hb : Below wr.heap.size wr wr') : StepsAt wr' sg sn scap gl S qv := ⟨own_below h.own hb, h.ne, h.gne⟩
theorem StepsAt.mark (h : StepsAt wr sg sn scap gl S qv) (j : Nat) (v : Value) : StepsAt (wr.setCell ⟨gl, j, none⟩ v) sg sn scap gl S qv :=
  ⟨RchSt.mark.own_keep' h.own fun k hk => heap_setCell_other wr ⟨gl, j, none⟩ k _ (fun e => by
    have e1 : sg = k := by simpa [Value.ownBlock] using hk
    have e2 : k = gl := e
    exact h.gne (e1.trans e2)), h.ne, h.gne⟩
theorem StepsAt.queued (h : StepsAt wr sg sn scap gl S qv) (o : Obj) (hg : (wr.alloc o).grownBy wr' qv.ownBlock) (hq : qv'.ownBlock = qv.ownBlock ∨ qv'.ownBlock = some (wr.alloc o).heap.size) : StepsAt wr' sg sn scap gl S qv' := by
  have hlt := (h.own.lt sg rfl).2
  refine ⟨World.ownsRow.kept (World.ownsRow.alloc h.own o) hg ?_, fun k hk => ?_, h.gne⟩
  · right
    intro e
    exact h.ne sg e.symm rfl
  · rcases hq with e | e
    · exact h.ne k (by rw [← e]; exact hk)
    · rw [e] at hk
      have e1 := Option.some.inj hk
      rw [World.size_alloc] at e1
      omega
end

set_option maxHeartbeats 8000000 in
set_option maxRecDepth 100000 in
theorem l03Reach_any (pb po a b : Nat) (p : Int → Int → Bool) (e8 : Bool) (sv : Value) (xs : List (Int × Int)) (w : World) (ha : 1 ≤ a ∧ a ≤ 16) (hb : 1 ≤ b ∧ b ≤ 16)
    (hp : ∀ x y : Int, p x y = true → (0 ≤ x ∧ x < a) ∧ (0 ≤ y ∧ y < b)) (hxs : xs.length ≤ 256) (hs : SlS w sv xs)
    (CW : ∀ W, Below w.heap.size w W → Calls Tryd.prog 57 #[.pointer (some ⟨pb, po, none⟩)] W fun e w' => e = .returned (.int .i64 a) ∧ W = w')
    (CH : ∀ W, Below w.heap.size w W → Calls Tryd.prog 56 #[.pointer (some ⟨pb, po, none⟩)] W fun e w' => e = .returned (.int .i64 b) ∧ W = w')
    (CB : ∀ (X Y : Int) W, Below w.heap.size w W → Calls Tryd.prog 59 #[.pointer (some ⟨pb, po, none⟩), .int .i64 X, .int .i64 Y] W fun e w' => e = .returned (.bool (p X Y)) ∧ W = w') :
    Calls Tryd.prog 72 #[.pointer (some ⟨pb, po, none⟩), sv, .bool e8] w (ReachPic p (stepL e8) xs a b w) := by
  obtain ⟨i0, hi, hz0, hz1, hz2⟩ := info_parts infoSp
  obtain ⟨j0, hj, hy0, hy1, hy2⟩ := info_parts Tryd.info4
  have HCW := Lib.hid CW
  have HCH := Lib.hid CH
  have HCB := Lib.hid CB
  have HP := Lib.hid hp
  obtain ⟨ao, cap, rfl⟩ : ∃ ao cap, sv = .slice ao xs.length cap := by
    rcases hs with ⟨ao, cap, rfl, rfl⟩ | ⟨b, cap, rfl, _⟩
    · exact ⟨_, _, rfl⟩
    · exact ⟨_, _, rfl⟩
  have HS : Hid (0 < xs.length → ∃ b, ao = some ⟨b, 0, none⟩ ∧ Spots w b xs) := fun h => by
    rcases hs with ⟨ao, cap, e, e2⟩ | ⟨b, cap, e, _, h3⟩
    · subst e2; simp at h
    · cases e; exact ⟨b, rfl, h3⟩
  have HSt := Lib.hid (Bfs.start p (stepL e8) xs a b)
  have hN : a * b ≤ 256 := Nat.mul_le_mul ha.2 hb.2
  have hc : (a : Int) * (b : Int) = ((a * b : Nat) : Int) := by push_cast; rfl
  have HAt := Lib.hid (fun (x y : Nat) (hx : x < a) (hy : y < b) => at_lt hx hy)
  have CM := Lib.hid (fun (lb cap : Nat) (bs : List Bool) (W : World) (hl : bs.length = a * b) (hB : Bools W lb 0 bs) => l01Make_any lb 0 cap a b bs W ha hb hl hB)
  obtain ⟨n, hn⟩ : ∃ n, a * b = n := ⟨_, rfl⟩
  have HN := Lib.hid hn
  rw [hn] at hN hc HSt HAt CM
  obtain ⟨m, hm⟩ : ∃ m, xs.length = m := ⟨_, rfl⟩
  have HM := Lib.hid hm
  rw [hm] at HS hxs ⊢
  have hP0 : Hid ((w.alloc (.cells #[.slice none 0 0] 30)).heap[w.heap.size]? = some (.cells #[.slice none 0 0] 30 (0, 0))) := heap_alloc_last w _
  have B0 := Lib.hid (Joins.below_alloc1 w (.cells #[.slice none 0 0] 30))
  clear CW CH CB hp hs hn hm
  go_enter Tryd.func72, Tryd.ntmps72
  go_wp2_with fail
  refine (HCW.out _ B0.out).mono ?_
  rintro e w1 ⟨rfl, rfl⟩
  go_wp2_with fail
  refine (HCH.out _ B0.out).mono ?_
  rintro e w1 ⟨rfl, rfl⟩
  go_wp2_with (at_make; refine wpList_make_full _ rfl _ _ 74 rfl (w.heap.size + 1) 4 j0 (.bool false) 1 Tryd.underlying74 hj hy0 hy1 _ _ _ _ n rfl rfl rfl rfl ?c1 ?c2 (by simp) ?_)
  case c1 => rw [hy2]; omega
  case c2 => unfold maxLen; omega
  intro w1 hown hgr
  rw [toList_madeCells_one] at hown
  have hs1 : w.heap.size + 1 ≤ w1.heap.size := by have := hgr.size; simpa using this
  have st1 : RchSt w (w1.alloc (.cells #[] 79)) (w.heap.size + 1) n (.slice (some ⟨w1.heap.size, 0, none⟩) 0 0) (List.replicate n false) [] := by
    refine ⟨?_, World.ownsRow_lit (base := w.heap.size + 1) (e := 79) (size := 2) w1 #[] 0 hs1 (by unfold maxLen; omega) rfl, ?_, ?_⟩
    · rw [show boolV (List.replicate n false) = List.replicate n (.bool false) from by simp [boolV]]
      exact World.ownsRow.alloc hown _
    · rw [Below.heap_alloc _ _ _ (by omega)]
      exact (hgr.block _ (by simp) (by simp)).trans hP0.out
    · exact ((Joins.below_alloc1 w _).grown hgr (by simp) (fun k h => by cases h)).alloc (by omega) _
  have ST1 := Lib.hid st1
  obtain ⟨q0, hq0⟩ : ∃ q, w1.heap.size = q := ⟨_, rfl⟩
  rw [hq0] at ST1
  clear hown hgr hs1 st1 hc hP0 B0
  go_wp2
  clear hq0
  go_loopw [9, 10] (fun ov iv wr => ∃ k : Nat, k ≤ m ∧ iv = .int .i64 k ∧ (∃ ao n cap, ov = .slice ao n cap) ∧ (∃ bs Q, Hid (Bfs p (stepL e8) xs a b k 0 0 bs Q) ∧ Hid (RchSt w wr (w.heap.size + 1) n ov bs Q))) (fun _ iv _ => m - (intOf iv).toNat)
  case atStart => exact ⟨0, Nat.zero_le _, rfl, ⟨_, _, _, rfl⟩, _, _, HSt.out, ST1.out⟩
  case round =>
    clear ST1 HSt
    obtain ⟨k, hk, rfl, ⟨qa, ql, qc, rfl⟩, bs, Q, HF, HR⟩ := hrel
    have hs0 := HR.out.bel.size
    by_cases hlt : k < m
    · have klt : (k : Int) < (m : Int) := by omega
      obtain ⟨b0, rfl, hbl, hcs⟩ := HS.out (by omega)
      have hkx : k < xs.length := by rw [HM.out]; exact hlt
      have c0 := cell_kept HR.out.bel (hcs k hkx).1
      have c1 := cell_kept HR.out.bel (hcs k hkx).2
      have HC0 : Hid (∀ W, Below w.heap.size w W → W.cell? ⟨b0, k * 2, none⟩ = some (.int .i64 (xs.getD k (0, 0)).1) ∧ W.cell? ⟨b0, k * 2 + 1, none⟩ = some (.int .i64 (xs.getD k (0, 0)).2)) := fun W h => ⟨cell_kept h (hcs k hkx).1, cell_kept h (hcs k hkx).2⟩
      have hxk : xs[k]? = some (xs.getD k (0, 0)) := by rw [List.getD_eq_getElem?_getD, List.getElem?_eq_getElem hkx]; rfl
      obtain ⟨x, hx⟩ : ∃ x, (xs.getD k (0, 0)).1 = x := ⟨_, rfl⟩
      obtain ⟨y, hy⟩ : ∃ y, (xs.getD k (0, 0)).2 = y := ⟨_, rfl⟩
      have hxy : xs.getD k (0, 0) = (x, y) := by rw [← hx, ← hy]
      rw [hxy] at hxk
      rw [hx] at c0 HC0
      rw [hy] at c1 HC0
      have HXk := Lib.hid hxk
      have HBw : Hid (∀ j, Below w.heap.size w (wr.drewN j)) := fun j => HR.out.bel.trans (Joins.below_draws w.heap.size _ _)
      have HRd : Hid (∀ j, RchSt w (wr.drewN j) (w.heap.size + 1) n (.slice qa ql qc) bs Q) := fun j => HR.out.below (Joins.below_draws wr.heap.size _ _)
      have CBx := Lib.hid (HCB.out x y)
      obtain ⟨v, hv⟩ : ∃ v, p x y = v := ⟨_, rfl⟩
      rw [hv] at CBx
      have HV := Lib.hid hv
      clear hcs hx hy hxy hxk hv hs0
      cases v with
      | false =>
        have HF2 : Hid (Bfs p (stepL e8) xs a b (k + 1) 0 0 bs Q) := HF.out.seeded fun q e hb => by
          rw [HXk.out] at e
          obtain rfl := Option.some.inj e
          unfold pAt at hb
          rw [HV.out] at hb
          cases hb
        clear HF HR
        go_wp2_with fail
        go_quiet ((go_at_call 59; exact Calls.quiet_of_same ((CBx.out _ (HBw.out _)).mono fun e w' ⟨he, hw⟩ => ⟨he, hw.symm⟩)))
        go_wp2
        go_roundw
        case rel => exact ⟨k + 1, by omega, by go_num, ⟨_, _, _, rfl⟩, _, _, HF2, HRd.out _⟩
        case measure => simp [intOf]; omega
      | true =>
        obtain ⟨⟨hx0, hx1⟩, hy0, hy1⟩ := HP.out x y HV.out
        obtain ⟨X, rfl⟩ := Int.eq_ofNat_of_zero_le hx0
        obtain ⟨Y, rfl⟩ := Int.eq_ofNat_of_zero_le hy0
        have hX : X < a := by omega
        have hY : Y < b := by omega
        have hlen : bs.length = n := by rw [← HN.out]; exact HF.out.len
        have hQi := HAt.out X Y hX hY
        have hold := HR.out.list.cellAt (Y * a + X) (by omega)
        have hfz := HR.out.list.frozenAt (Y * a + X)
        obtain ⟨c, hcv⟩ : ∃ c, bs[Y * a + X]? = some c := ⟨bs[Y * a + X]'(by omega), List.getElem?_eq_getElem _⟩
        have hold2 : wr.cell? ⟨w.heap.size + 1, Y * a + X, none⟩ = some (.bool c) := by rw [hold]; unfold boolV; rw [List.getElem?_map, hcv]; rfl
        have HMk : Hid (∀ j, RchSt w ((wr.drewN j).setCell ⟨w.heap.size + 1, Y * a + X, none⟩ (.bool true)) (w.heap.size + 1) n (.slice qa ql qc) (bs.set (Y * a + X) true) Q) := fun j => (HRd.out j).mark hQi hlen
        have hmem := (HF.out.mark X Y hX hY).1
        rw [List.getD_eq_getElem?_getD, hcv] at hmem
        have HMem : Hid (c = true → ((X : Int), (Y : Int)) ∈ Q) := fun e => hmem (by subst e; rfl)
        have HPush : Hid (c = false → Bfs p (stepL e8) xs a b (k + 1) 0 0 (bs.set (Y * a + X) true) (Q ++ [((X : Int), (Y : Int))])) := fun e => by
          have hr : Reach p (stepL e8) xs ((X : Int), (Y : Int)) := Reach.seed (List.mem_of_getElem? HXk.out) HV.out
          refine (HF.out.push hX hY hr (by rw [hcv, e])).seeded fun q e2 _ => ?_
          rw [HXk.out] at e2
          obtain rfl := Option.some.inj e2
          exact List.mem_append_right _ (List.mem_singleton.2 rfl)
        have hql := HF.out.qlen
        rw [HN.out] at hql
        have kc : (Y : Int) * (a : Int) = ((Y * a : Nat) : Int) := by push_cast; rfl
        obtain ⟨Z, hZ⟩ : ∃ k, Y * a = k := ⟨_, rfl⟩
        rw [hZ] at hQi hfz hold2 kc HMk HPush
        have k1 : IntKind.i64.wrap ((Y : Int) * (a : Int)) = (Z : Int) := by rw [kc]; exact IntWalk.i64_in _ (by omega)
        have k2 : IntKind.i64.wrap ((Z : Int) + (X : Int)) = (Z : Int) + (X : Int) := IntWalk.i64_in _ (by omega)
        have k3 : (Z : Int) + (X : Int) < (n : Int) := by omega
        have k4 : (0 : Int) ≤ (Z : Int) + (X : Int) := by omega
        have k5 : ((Z : Int) + (X : Int)).toNat = Z + X := by omega
        have k6 : (0 : Int) ≤ (k : Int) := by omega
        clear hold hcv hmem hZ kc hlen hx0 hx1 hy0 hy1
        cases c with
        | true =>
          have HF2 : Hid (Bfs p (stepL e8) xs a b (k + 1) 0 0 bs Q) := HF.out.seeded fun q e hb => by
            rw [HXk.out] at e
            obtain rfl := Option.some.inj e
            exact HMem.out rfl
          clear HF HR HPush HMk HMem
          go_wp2_with fail
          go_quiet ((go_at_call 59; exact Calls.quiet_of_same ((CBx.out _ (HBw.out _)).mono fun e w' ⟨he, hw⟩ => ⟨he, hw.symm⟩)))
          clear k1 k2 k3 k4 k5 k6 hfz hold2
          go_wp2
          go_roundw
          case rel => exact ⟨k + 1, by omega, by go_num, ⟨_, _, _, rfl⟩, _, _, HF2, HRd.out _⟩
          case measure => simp [intOf]; omega
        | false =>
          have HF2 := Lib.hid (HPush.out rfl)
          clear HF HR HPush HMem
          go_wp2_with fail
          go_quiet ((go_at_call 59; exact Calls.quiet_of_same ((CBx.out _ (HBw.out _)).mono fun e w' ⟨he, hw⟩ => ⟨he, hw.symm⟩)))
          go_wp2
          go_region
          have st2 := HMk.out (nq + 1)
          obtain ⟨W2, hW2⟩ : ∃ W2, ((wr.drewN (nq + 1)).setCell ⟨w.heap.size + 1, Z + X, none⟩ (.bool true)) = W2 := ⟨_, rfl⟩
          rw [hW2] at st2 ⊢
          have ST2 := Lib.hid st2
          have d0 := (HC0.out _ st2.bel).1
          have d1 := (HC0.out _ st2.bel).2
          have hs2 := st2.bel.size
          have hq2 := Lib.hid (World.ownsRow.alloc st2.q (.cells #[.int .i64 X, .int .i64 Y] 79))
          have hs3 : w.heap.size + 1 ≤ W2.heap.size := Nat.le_of_lt (st2.list.lt (w.heap.size + 1) rfl).2
          clear hW2 st2 k1 k2 k3 k4 k5 hfz hold2 c0 c1 HMk
          go_wp2_with (at_builtin; refine wpList_append_own _ rfl _ _ 34 rfl (w.heap.size + 1) 79 i0 (.agg #[.int .i64 0, .int .i64 0]) 2 16 Tryd.underlying34 hi hz0 hz1 hz2 rfl (by decide) _ _ _ rfl hq2.out ⟨W2.heap.size, 0, none⟩ 1 1 [.int .i64 X, .int .i64 Y] rfl rfl (two_cells_new _ _ _ _) (by intro u hu; simp at hu; rcases hu with rfl | rfl <;> rfl) (by unfold maxLen; omega) (by omega) (by simp; omega) ?_)
          intro v' w5 hown' hgr _
          have ST5 := Lib.hid (ST2.out.queued hown' hgr)
          obtain ⟨g', c', rfl⟩ := Joins.ownsRow_form hown' (by omega)
          clear hown' hgr hq2 ST2
          go_wp2
          go_roundw
          case rel => exact ⟨k + 1, by omega, by go_num, ⟨_, _, _, rfl⟩, _, _, HF2, ST5⟩
          case measure => simp [intOf]; omega
    · obtain rfl : k = m := by omega
      go_wp2_with fail
      refine (l03Steps_any e8 wr).mono ?_
      rintro e w2 ⟨sao, sn, scap, rfl, hso, hb2⟩
      obtain ⟨S, hS⟩ : ∃ S, stepL e8 = S := ⟨_, rfl⟩
      have hSr := stepL_rng e8
      have hSl : 0 < S.length ∧ S.length ≤ 8 := by rw [← hS]; cases e8 <;> decide
      rw [hS] at hso hSr HF
      rw [hS]
      obtain ⟨sg, sc, hse⟩ := Joins.ownsRow_form hso hSl.1
      cases hse
      have hgl := (HR.out.list.lt (w.heap.size + 1) rfl).2
      have hsg := (hso.lt sg rfl).1
      have HA : Hid (StepsAt w2 sg S.length scap (w.heap.size + 1) S (.slice qa ql qc)) := ⟨Joins.ownsRow_le hso (Nat.zero_le _), fun k hk => by have := (HR.out.q.lt k hk).2; omega, by omega⟩
      have HR2 := Lib.hid (HR.out.below hb2)
      have HSr := Lib.hid hSr
      have HSe := Lib.hid hS
      clear hso hb2 HR hSr hS hs0 hsg hgl
      go_wp2
      go_loopw [9, 12] (fun ov iv wr => ∃ i : Nat, i ≤ n ∧ iv = .int .i64 i ∧ (∃ bs Q, Hid (i ≤ Q.length) ∧ (∃ ao cap, ov = .slice ao Q.length cap) ∧ Hid (Bfs p S xs a b k i 0 bs Q) ∧ Hid (RchSt w wr (w.heap.size + 1) n ov bs Q) ∧ Hid (StepsAt wr sg S.length scap (w.heap.size + 1) S ov))) (fun _ iv _ => n - (intOf iv).toNat)
      case atStart =>
        refine ⟨0, Nat.zero_le _, rfl, bs, Q, Nat.zero_le _, ?_, HF.out, HR2.out, HA.out⟩
        rcases Joins.ownsRow_forms HR2.out.q with ⟨e, h0⟩ | ⟨g, c, e⟩
        · cases e; exact ⟨_, _, by rw [h0]⟩
        · cases e; exact ⟨_, _, rfl⟩
      case round =>
        clear HF HR2 HA
        obtain ⟨i, hin, rfl, bs, Q, HiQ, ⟨qa, qc, rfl⟩, HF, HR, HA⟩ := hrel
        have hql := HF.out.qlen
        rw [HN.out] at hql
        obtain ⟨L, hL⟩ : ∃ L, Q.length = L := ⟨_, rfl⟩
        have HL := Lib.hid hL
        have hiL := HiQ.out
        rw [hL] at hql HR HA hiL
        rw [hL]
        by_cases hlt2 : i < L
        · have kil : (i : Int) < (L : Int) := by omega
          clear hL
          have hiQ : i < Q.length := by rw [HL.out]; exact hlt2
          obtain ⟨⟨qx, qy⟩, hqi⟩ : ∃ q, Q[i]? = some q := ⟨Q[i], List.getElem?_eq_getElem hiQ⟩
          have hqb := (HF.out.mem _ (List.mem_of_getElem? hqi)).black
          obtain ⟨⟨qx0, qx1⟩, qy0, qy1⟩ := HP.out qx qy hqb
          obtain ⟨qg, qc', hqe⟩ := Joins.ownsRow_form HR.out.q (by omega)
          cases hqe
          have HQi := Lib.hid hqi
          have HiL := Lib.hid hiQ
          have hSn := Lib.hid (rfl : S.length = S.length)
          obtain ⟨N, hNe⟩ : ∃ N, S.length = N := ⟨_, rfl⟩
          have HNe := Lib.hid hNe
          rw [hNe] at HA
          rw [hNe]
          have HF1 : Hid (Bfs p S xs a b k i 0 bs Q) := HF.out
          have HR1 : Hid (RchSt w wr (w.heap.size + 1) n (.slice (some ⟨qg, 0, none⟩) Q.length qc) bs Q) := by show RchSt _ _ _ _ _ _ _; rw [HL.out]; exact HR.out
          have HA1 : Hid (StepsAt wr sg N scap (w.heap.size + 1) S (.slice (some ⟨qg, 0, none⟩) Q.length qc)) := by show StepsAt _ _ _ _ _ _ _; rw [HL.out]; exact HA.out
          rw [← HL.out]
          clear hqi hiQ hqb HR HA HF hSn hNe hiL HiQ
          go_wp2
          go_loopw [9, 13] (fun ov jv wr => ∃ j : Nat, j ≤ N ∧ jv = .int .i64 j ∧ (∃ bs Q, Hid (Q[i]? = some (qx, qy)) ∧ (∃ qg cap, ov = .slice (some ⟨qg, 0, none⟩) Q.length cap) ∧ Hid (Bfs p S xs a b k i j bs Q) ∧ Hid (RchSt w wr (w.heap.size + 1) n ov bs Q) ∧ Hid (StepsAt wr sg N scap (w.heap.size + 1) S ov))) (fun _ jv _ => N - (intOf jv).toNat)
          case atStart => exact ⟨0, Nat.zero_le _, rfl, bs, Q, HQi, ⟨_, _, rfl⟩, HF1, HR1, HA1⟩
          case round =>
            clear HF1 HR1 HA1 HQi HiL HL hql
            obtain ⟨j, hj2, rfl, bs, Q, HQi, ⟨qg, qc, rfl⟩, HF, HR, HA⟩ := hrel
            have hiQ : i < Q.length := (List.getElem?_eq_some_iff.1 HQi.out).1
            by_cases hlj : j < N
            · have kjl : (j : Int) < (N : Int) := by omega
              have kiq : (i : Int) < (Q.length : Int) := by omega
              have hjS : j < S.length := by rw [HNe.out]; exact hlj
              have hge : Q.getD i (0, 0) = (qx, qy) := by rw [List.getD_eq_getElem?_getD, HQi.out]; rfl
              have qs := (OwnS.spots HR.out.q).2 i hiQ
              rw [hge] at qs
              have q0 := qs.1
              have q1 := qs.2
              obtain ⟨⟨dx, dy⟩, hdj⟩ : ∃ d, S[j]? = some d := ⟨S[j], List.getElem?_eq_getElem hjS⟩
              have hde : S.getD j (0, 0) = (dx, dy) := by rw [List.getD_eq_getElem?_getD, hdj]; rfl
              have ds := (OwnS.spots HA.out.own).2 j hjS
              rw [hde] at ds
              have s0 := ds.1
              have s1 := ds.2
              simp only at q0 q1 s0 s1
              have hdr := HSr.out _ (List.mem_of_getElem? hdj)
              simp only at hdr
              obtain ⟨⟨r1, r2⟩, r3, r4⟩ := hdr
              have e1 : IntKind.i64.wrap (qx + dx) = qx + dx := IntWalk.i64_in _ (by omega)
              have e2 : IntKind.i64.wrap (qy + dy) = qy + dy := IntWalk.i64_in _ (by omega)
              have HDj := Lib.hid hdj
              clear qs hge ds hde hdj
              go_wp2
              go_quiet (fail)
              obtain ⟨n1, hn1⟩ : ∃ n1, nq = n1 := ⟨_, rfl⟩
              rw [hn1]
              clear hn1
              go_wp2
              go_quiet (fail)
              have hbd : Below wr.heap.size wr ((wr.drewN n1).drewN nq) := (Joins.below_draws wr.heap.size _ _).trans (Joins.below_draws wr.heap.size _ _)
              have R3 := Lib.hid (HR.out.below hbd)
              have A3 := Lib.hid (HA.out.below hbd)
              obtain ⟨W3, hW3⟩ : ∃ W3, (wr.drewN n1).drewN nq = W3 := ⟨_, rfl⟩
              rw [hW3] at R3 A3 ⊢
              clear hbd hW3 HR HA q0 q1 s0 s1 e1 e2
              obtain ⟨x, hx⟩ : ∃ x, qx + dx = x := ⟨_, rfl⟩
              obtain ⟨y, hy⟩ : ∃ x, qy + dy = x := ⟨_, rfl⟩
              rw [hx, hy]
              have hadd : addS (qx, qy) (dx, dy) = (x, y) := by rw [← hx, ← hy]; rfl
              have CBx := Lib.hid (HCB.out x y W3 R3.out.bel)
              obtain ⟨v, hv⟩ : ∃ v, p x y = v := ⟨_, rfl⟩
              rw [hv] at CBx
              have HV := Lib.hid hv
              have HAdd := Lib.hid hadd
              clear hadd hv hx hy
              cases v with
              | false =>
                have HF2 : Hid (Bfs p S xs a b k i (j + 1) bs Q) := HF.out.stepped hiQ fun q e d e2 hb => by
                  rw [HQi.out] at e
                  obtain rfl := Option.some.inj e
                  rw [HDj.out] at e2
                  obtain rfl := Option.some.inj e2
                  rw [HAdd.out] at hb
                  unfold pAt at hb
                  rw [HV.out] at hb
                  cases hb
                clear HF
                go_wp2_with fail
                refine CBx.out.mono ?_
                rintro e w4 ⟨rfl, rfl⟩
                go_wp2
                go_roundw
                case rel => exact ⟨j + 1, by omega, by go_num, bs, Q, HQi, ⟨_, _, rfl⟩, HF2, R3, A3⟩
                case measure => simp [intOf]; omega
              | true =>
                have hr : Reach p S xs (x, y) := by
                  have h1 := HF.out.mem _ (List.mem_of_getElem? HQi.out)
                  rw [← HAdd.out]
                  exact Reach.step h1 (List.mem_of_getElem? HDj.out) (by rw [HAdd.out]; exact HV.out)
                obtain ⟨⟨hx0, hx1⟩, hy0, hy1⟩ := HP.out x y HV.out
                obtain ⟨X, rfl⟩ := Int.eq_ofNat_of_zero_le hx0
                obtain ⟨Y, rfl⟩ := Int.eq_ofNat_of_zero_le hy0
                have hX : X < a := by omega
                have hY : Y < b := by omega
                have hlen : bs.length = n := by rw [← HN.out]; exact HF.out.len
                have hQi := HAt.out X Y hX hY
                have hold := R3.out.list.cellAt (Y * a + X) (by omega)
                have hfz := R3.out.list.frozenAt (Y * a + X)
                obtain ⟨c, hcv⟩ : ∃ c, bs[Y * a + X]? = some c := ⟨bs[Y * a + X]'(by omega), List.getElem?_eq_getElem _⟩
                have hold2 : W3.cell? ⟨w.heap.size + 1, Y * a + X, none⟩ = some (.bool c) := by rw [hold]; unfold boolV; rw [List.getElem?_map, hcv]; rfl
                have HMk := Lib.hid (R3.out.mark hQi hlen)
                have AMk := Lib.hid (A3.out.mark (Y * a + X) (.bool true))
                have hmem := (HF.out.mark X Y hX hY).1
                rw [List.getD_eq_getElem?_getD, hcv] at hmem
                have HMem : Hid (c = true → ((X : Int), (Y : Int)) ∈ Q) := fun e => hmem (by subst e; rfl)
                have HStep : Hid (∀ bs' Q', Bfs p S xs a b k i j bs' Q' → Q'[i]? = some (qx, qy) → i < Q'.length → ((X : Int), (Y : Int)) ∈ Q' → Bfs p S xs a b k i (j + 1) bs' Q') := fun bs' Q' h h1 h2 h3 => h.stepped h2 fun q e d e2 _ => by
                  rw [h1] at e
                  obtain rfl := Option.some.inj e
                  rw [HDj.out] at e2
                  obtain rfl := Option.some.inj e2
                  rw [HAdd.out]
                  exact h3
                have HPush : Hid (c = false → Bfs p S xs a b k i (j + 1) (bs.set (Y * a + X) true) (Q ++ [((X : Int), (Y : Int))])) := fun e => by
                  refine HStep.out _ _ (HF.out.push hX hY hr (by rw [hcv, e])) ?_ (by rw [List.length_append]; omega) (List.mem_append_right _ (List.mem_singleton.2 rfl))
                  rw [List.getElem?_append_left hiQ]
                  exact HQi.out
                have hql := HF.out.qlen
                rw [HN.out] at hql
                have kc : (Y : Int) * (a : Int) = ((Y * a : Nat) : Int) := by push_cast; rfl
                obtain ⟨Z, hZ⟩ : ∃ k, Y * a = k := ⟨_, rfl⟩
                rw [hZ] at hQi hfz hold2 kc HMk AMk HPush
                have k3 : (Z : Int) + (X : Int) < (n : Int) := by omega
                have k4 : (0 : Int) ≤ (Z : Int) + (X : Int) := by omega
                have k5 : ((Z : Int) + (X : Int)).toNat = Z + X := by omega
                clear hold hcv hmem hZ hlen hx0 hx1 hy0 hy1 hr
                cases c with
                | true =>
                  have HF2 := Lib.hid (HStep.out _ _ HF.out HQi.out hiQ (HMem.out rfl))
                  clear HF HPush HMk AMk HMem HStep
                  go_wp2_with fail
                  refine CBx.out.mono ?_
                  rintro e w4 ⟨rfl, rfl⟩
                  go_wp2
                  go_roundw
                  case rel => exact ⟨j + 1, by omega, by go_num, bs, Q, HQi, ⟨_, _, rfl⟩, HF2, R3, A3⟩
                  case measure => simp [intOf]; omega
                | false =>
                  have HF2 := Lib.hid (HPush.out rfl)
                  clear HF HPush HMem HStep
                  go_wp2_with fail
                  refine CBx.out.mono ?_
                  rintro e w4 ⟨rfl, rfl⟩
                  have HQ2 : Hid ((Q ++ [((X : Int), (Y : Int))])[i]? = some (qx, qy)) := by
                    show _ = _
                    rw [List.getElem?_append_left hiQ]
                    exact HQi.out
                  have hq2 := Lib.hid (World.ownsRow.alloc HMk.out.q (.cells #[.int .i64 X, .int .i64 Y] 79))
                  have hnew := two_cells_new (W3.setCell ⟨w.heap.size + 1, Z + X, none⟩ (.bool true)) (.int .i64 X) (.int .i64 Y) 79
                  have esz : (W3.setCell ⟨w.heap.size + 1, Z + X, none⟩ (.bool true)).heap.size = W3.heap.size := by simp
                  rw [esz] at hnew
                  have HNew := Lib.hid hnew
                  have hs3 : w.heap.size + 1 ≤ W3.heap.size := Nat.le_of_lt (R3.out.list.lt (w.heap.size + 1) rfl).2
                  have HEs := Lib.hid esz
                  clear hnew esz R3 A3
                  go_wp2_with (at_builtin; refine wpList_append_own_at _ rfl _ _ 34 rfl (w.heap.size + 1) 79 i0 (.agg #[.int .i64 0, .int .i64 0]) 2 16 Tryd.underlying34 hi hz0 hz1 hz2 rfl (by decide) _ _ _ rfl hq2.out ⟨W3.heap.size, 0, none⟩ 1 1 [.int .i64 X, .int .i64 Y] rfl rfl HNew.out (by intro u hu; simp at hu; rcases hu with rfl | rfl <;> rfl) (by unfold maxLen; omega) (by omega) (by simp; omega) ?_)
                  intro v' w5 hown' hgr _ hq5
                  have ST5 := Lib.hid (HMk.out.queued hown' hgr)
                  have A5 := Lib.hid (AMk.out.queued (qv' := v') _ hgr (by rw [World.size_alloc, HEs.out]; exact hq5))
                  obtain ⟨g', c', rfl⟩ := Joins.ownsRow_form hown' (by omega)
                  clear hown' hgr hq2 HMk AMk hq5 HNew HEs
                  go_wp2
                  go_roundw
                  case rel => exact ⟨j + 1, by omega, by go_num, bs.set (Z + X) true, Q ++ [((X : Int), (Y : Int))], HQ2, ⟨g', c', by rw [List.length_append]; rfl⟩, HF2, ST5, A5⟩
                  case measure => simp [intOf]; omega
            · obtain rfl : j = N := by omega
              have hjl : ¬ (j : Int) < (j : Int) := by omega
              have HF2 : Hid (Bfs p S xs a b k (i + 1) 0 bs Q) := by
                have h := HF.out
                rw [← HNe.out] at h
                exact h.next hiQ
              have hql := HF.out.qlen
              rw [HN.out] at hql
              clear HF
              go_wp2
              go_roundw
              case rel => exact ⟨i + 1, by omega, by go_num, bs, Q, hiQ, ⟨_, _, rfl⟩, HF2, HR, HA⟩
              case measure => simp [intOf]; omega
        · obtain rfl : i = L := by omega
          have kil : ¬ (i : Int) < (i : Int) := by omega
          have hall : ∀ x y : Nat, x < a → y < b → (bs.getD (y * a + x) false = true ↔ Reach p S xs ((x : Int), (y : Int))) := fun x y hx hy => by
            have h := HF.out
            rw [← hL, ← HM.out] at h
            exact (h.mark x y hx hy).trans (h.all _).symm
          have hlen : bs.length = n := by rw [← HN.out]; exact HF.out.len
          have HAll := Lib.hid hall
          have hBo := own_bools HR.out.list hlen
          have CMx := Lib.hid (CM.out (w.heap.size + 1) n bs wr hlen hBo)
          have hlen2 : bs.length = a * b := hlen.trans HN.out.symm
          have HLen := Lib.hid hlen2
          obtain ⟨pic, hpic⟩ : ∃ q, mkPic a b (fun y x => bs.getD (y * a + x) false) = q := ⟨_, rfl⟩
          rw [hpic] at CMx
          have HPic := Lib.hid hpic
          clear hall hlen hBo hlen2 hpic HF HA hL
          go_wp2_with fail
          refine CMx.out.mono ?_
          rintro e w2 ⟨g, cap2, rfl, hown2, hb2⟩
          have hp2 := (hb2.block _ (Array.getElem?_eq_some_iff.1 HR.out.pic).1).trans HR.out.pic
          have hfr : w2.frozen? ⟨w.heap.size, 0, none⟩ = false := free_of_one hp2
          have hc2 : w2.cell? ⟨w.heap.size, 0, none⟩ = some (.slice none 0 0) := cell_of_one hp2
          have hs1 := HR.out.bel.size
          have O2 := Lib.hid (own_set (u := .slice (some ⟨g, 0, none⟩) pic.length cap2) hown2 hp2 (by decide))
          have P2 := Lib.hid hp2
          have B2 := Lib.hid (HR.out.bel.trans (hb2.mono hs1))
          clear hown2 hp2 hb2 HR
          go_wp2_with fail
          refine bodyPost_ret (v := .agg #[.slice (some ⟨g, 0, none⟩) pic.length cap2]) (by simp [results, Tryd.results72, go_sem, cell_of_one (one_setCell P2.out)]) rfl ⟨bs, HLen.out, (by first | exact HAll.out | (rw [HSe.out]; exact HAll.out)), ?_⟩
          rw [HPic.out]
          exact ⟨g, cap2, rfl, Joins.ownsRow_le O2.out hs1, B2.out.setCell (by simp) _⟩
end Go.Proofs.YtenbhnfajjknkaaDoor
