/- Contracts of single functions, and plain lemmas, on which the exact laws of this seat rest; each holds under the conditions that it states. -/
import Derived.Test.YtabkkpifkkgpeaaDoorCVN
import Derived.Test.YtabkkpifkkgpeaaDoorV5
namespace Go.Proofs.YtabkkpifkkgpeaaDoor
set_option linter.unusedVariables false
set_option linter.unusedSimpArgs false
open Go.RowKit
attribute [local go_sem] Oper.semAt_some

/-! ### parts of indices -/
def addP (P : List (List Int)) (x : Int) : List (List Int) := P ++ [[x, x]]
def updP (P : List (List Int)) (x : Int) : List (List Int) := P.set (P.length - 1) [(P.getD (P.length - 1) []).getD 0 0, x]
theorem updP_len (P : List (List Int)) (x : Int) : (updP P x).length = P.length := by simp [updP]
theorem addP_len (P : List (List Int)) (x : Int) : (addP P x).length = P.length + 1 := by simp [addP]
/-- each part has two numbers -/
def TwoP (P : List (List Int)) : Prop := ∀ i, i < P.length → (P.getD i []).length = 2
theorem two_add {P : List (List Int)} (h : TwoP P) (x : Int) : TwoP (addP P x) := fun i hi => by
  rw [addP_len] at hi
  unfold addP
  rw [List.getD_eq_getElem?_getD]
  by_cases e : i = P.length
  · subst e; simp
  · rw [List.getElem?_append_left (by omega), ← List.getD_eq_getElem?_getD]
    exact h i (by omega)
theorem two_upd {P : List (List Int)} (h : TwoP P) (x : Int) : TwoP (updP P x) := fun i hi => by
  rw [updP_len] at hi
  unfold updP
  rw [List.getD_eq_getElem?_getD, List.getElem?_set]
  by_cases e : P.length - 1 = i
  · rw [if_pos e, if_pos (by omega)]; rfl
  · rw [if_neg e, ← List.getD_eq_getElem?_getD]
    exact h i hi
theorem upd_add (P : List (List Int)) (x : Int) : updP (addP P x) x = addP P x := by
  unfold updP addP
  apply List.ext_getElem?
  intro i
  rw [List.getElem?_set]
  simp only [List.length_append, List.length_cons, List.length_nil, Nat.zero_add, Nat.add_sub_cancel]
  by_cases e : P.length = i
  · subst e
    simp
  · rw [if_neg e]
def ptN (ix : List Int) (gap : Int) (k : Nat) : Bool := decide (k = 0) || decide (gap < ix.getD k 0 - ix.getD (k - 1) 0)
def ptL (ix : List Int) (gap : Int) : Nat → List (List Int)
  | 0 => []
  | k + 1 => if ptN ix gap k = true then addP (ptL ix gap k) (ix.getD k 0) else updP (ptL ix gap k) (ix.getD k 0)
theorem ptL_succ (ix : List Int) (gap : Int) (k : Nat) : ptL ix gap (k + 1) = if ptN ix gap k = true then addP (ptL ix gap k) (ix.getD k 0) else updP (ptL ix gap k) (ix.getD k 0) := rfl
theorem ptL_two (ix : List Int) (gap : Int) : ∀ k, TwoP (ptL ix gap k)
  | 0 => fun i hi => absurd hi (Nat.not_lt_zero i)
  | k + 1 => by
    rw [ptL_succ]
    split
    · exact two_add (ptL_two ix gap k) _
    · exact two_upd (ptL_two ix gap k) _
theorem ptL_len (ix : List Int) (gap : Int) : ∀ k, (ptL ix gap k).length ≤ k
  | 0 => Nat.le_refl _
  | k + 1 => by
    have := ptL_len ix gap k
    rw [ptL_succ]
    split
    · rw [addP_len]; omega
    · rw [updP_len]; omega
theorem ptL_pos (ix : List Int) (gap : Int) : ∀ k, 0 < k → 0 < (ptL ix gap k).length
  | 0, h => absurd h (Nat.lt_irrefl 0)
  | k + 1, _ => by
    rw [ptL_succ]
    split
    · rw [addP_len]; omega
    · rename_i hn
      rw [updP_len]
      by_cases h0 : k = 0
      · subst h0
        exfalso
        apply hn
        rfl
      · exact ptL_pos ix gap k (by omega)

/-- the last part's end is written anew -/
theorem OwnL.upd {W : World} {lo hi : Nat} {v : Value} {us : Nat → Value} {P : List (List Int)} (h : OwnL W lo hi v us P) (hpos : 0 < P.length) (h2 : TwoP P) (x : Int) :
    ∃ g c old, us (P.length - 1) = .slice (some ⟨g, 0, none⟩) 2 c ∧ W.cell? ⟨g, 1, none⟩ = some old ∧ W.frozen? ⟨g, 1, none⟩ = false ∧ lo ≤ g ∧ g < W.heap.size ∧ OwnL (W.setCell ⟨g, 1, none⟩ (.int .i64 x)) lo hi v us (updP P x) := by
  have hj : P.length - 1 < P.length := by omega
  have he := h.each (P.length - 1) hj
  have hl := h2 (P.length - 1) hj
  obtain ⟨R, hR⟩ : ∃ R, P.getD (P.length - 1) [] = R := ⟨_, rfl⟩
  have he' : OwnN W lo (us (P.length - 1)) R := by rw [← hR]; exact he
  rw [hR] at hl
  match R, hl with
  | [a, b], _ =>
    have hrow : W.ownsRow lo 2 1 (us (P.length - 1)) 2 [.int .i64 a, .int .i64 b] := he'
    rcases Joins.ownsRow_forms hrow with ⟨e1, h0⟩ | ⟨g, c, e1⟩
    · omega
    · rw [e1] at hrow
      have hst := World.ownsRow.stored (h := hrow) 1 (.int .i64 x)
      refine ⟨g, c, .int .i64 b, e1, by simpa using World.ownsRow.cellAt (h := hrow) 1 (by omega), World.ownsRow.frozenAt (h := hrow) 1, (World.ownsRow.lt (h := hrow) g rfl).1, (World.ownsRow.lt (h := hrow) g rfl).2, ?_⟩
      have hw := OwnR.wrote (w' := W.setCell ⟨g, 1, none⟩ (.int .i64 x)) h hj (g := [a, x]) (by rw [e1]; exact hst.1) (by rw [e1]; exact grown_cell _ _ _)
      unfold OwnL
      rw [updP_len]
      refine hw.congr fun i hi => ?_
      unfold updP
      rw [hR]
      simp only [List.getD_eq_getElem?_getD, List.getElem?_set]
      by_cases e : i = P.length - 1
      · rw [if_pos e, if_pos e.symm, if_pos (by omega)]; rfl
      · rw [if_neg e, if_neg (fun e2 => e e2.symm)]
/-- the rows' cell -/
theorem OwnL.at {W : World} {lo hi gv cap : Nat} {us : Nat → Value} {P : List (List Int)} (h : OwnL W lo hi (.slice (some ⟨gv, 0, none⟩) P.length cap) us P) (i : Nat) (hip : i < P.length) : W.cell? ⟨gv, i, none⟩ = some (us i) := by
  have := World.ownsRow.cellAt (h := (show OwnR W lo hi _ us P.length _ from h).row) i (by simpa using hip)
  rw [this]
  simp [hip]

set_option maxHeartbeats 4000000 in
set_option maxRecDepth 100000 in
theorem parts_any (v : Value) (ix : List Int) (gap : Int) (w : World) (hv : SlN w v ix) (h256 : ix.length ≤ 256) (hr : ∀ i, i < ix.length → 0 ≤ ix.getD i 0 ∧ ix.getD i 0 ≤ 1000) :
    Calls Tryd.prog 127 #[v, .int .i64 gap] w (fun e w' => ∃ ao cap us, e = .returned (.slice ao (ptL ix gap ix.length).length cap) ∧ OwnL w' w.heap.size w'.heap.size (.slice ao (ptL ix gap ix.length).length cap) us (ptL ix gap ix.length) ∧ Below w.heap.size w w') := by
  obtain ⟨i0, hi, hz0, hz1, hz2⟩ := info_parts infoSl
  have HYes : Hid (∀ k, ptN ix gap k = true → ptL ix gap (k + 1) = addP (ptL ix gap k) (ix.getD k 0)) := fun k h => by rw [ptL_succ, if_pos h]
  have HNo : Hid (∀ k, ptN ix gap k = false → ptL ix gap (k + 1) = updP (ptL ix gap k) (ix.getD k 0)) := fun k h => by rw [ptL_succ, if_neg (by rw [h]; decide)]
  have HTwo := Lib.hid (ptL_two ix gap)
  have HLen := Lib.hid (ptL_len ix gap)
  have HPos := Lib.hid (ptL_pos ix gap)
  have HDef : Hid (∀ k, ptN ix gap k = (decide (k = 0) || decide (gap < ix.getD k 0 - ix.getD (k - 1) 0))) := fun _ => rfl
  have H0 : Hid (ptL ix gap 0 = []) := rfl
  obtain ⟨f, hf⟩ : ∃ f, ptL ix gap = f := ⟨_, rfl⟩
  rw [hf] at HYes HNo HTwo HLen HPos H0 ⊢
  rcases hv with ⟨ao, cap, rfl, hnil⟩ | ⟨b, off, cap, rfl, hpos, hb, hc⟩
  · have hn : ix.length = 0 := by rw [hnil]; rfl
    rw [hn]
    have HF : Hid (f 0 = []) := H0.out
    rw [HF.out]
    clear HYes HNo HTwo HLen HPos HDef H0 hf hnil hn hr h256
    go_enter Tryd.func127, Tryd.ntmps127
    go_wp2_with fail
    refine wp_loop_rounds 1 ?_; rw [rounds_succ]
    go_wp2
    go_ret
    exact ⟨none, 0, _, rfl, OwnL.start _ _ _, Below.refl _ _⟩
  · obtain ⟨N, hN⟩ : ∃ N, ix.length = N := ⟨_, rfl⟩
    rw [hN] at hc h256 hr hpos ⊢
    have HC := Lib.hid hc
    have HRg := Lib.hid hr
    clear hc hr hN hf
    go_enter Tryd.func127, Tryd.ntmps127
    go_wp2_with fail
    go_loopw [5, 10] (fun lv iv wr => ∃ (ao : Option Addr) (c k : Nat), k ≤ N ∧ iv = .int .i64 (k : Int) ∧ lv = .slice ao (f k).length c ∧ (∃ us, Hid (OwnL wr w.heap.size wr.heap.size (.slice ao (f k).length c) us (f k))) ∧ Hid (Below w.heap.size w wr)) (fun _ iv _ => N - (intOf iv).toNat)
    case atStart => exact ⟨none, 0, 0, Nat.zero_le _, rfl, by rw [H0.out]; rfl, ⟨_, by rw [H0.out]; exact Lib.hid (OwnL.start _ _ _)⟩, Lib.hid (Below.refl _ _)⟩
    case round =>
      obtain ⟨ao, c, k, hk, rfl, rfl, ⟨us, HO⟩, HB⟩ := hrel
      by_cases hlt : k < N
      · have kk : (k : Int) < (N : Int) := by omega
        have kk0 : (0 : Int) ≤ (k : Int) := by omega
        have hck := cell_kept HB.out (HC.out k hlt)
        have hrk := HRg.out k hlt
        have hsB := HB.out.size
        have hbl : b < wr.heap.size := by omega
        have hdk := HDef.out k
        have hlk := HLen.out k
        obtain ⟨x, hx⟩ : ∃ x, ix.getD k 0 = x := ⟨_, rfl⟩
        have HYk := Lib.hid (HYes.out k)
        have HNk := Lib.hid (HNo.out k)
        rw [hx] at hck hrk hdk HYk HNk
        obtain ⟨P, hP⟩ : ∃ P, f k = P := ⟨_, rfl⟩
        have HT2 := HTwo.out k
        rw [hP] at HO HYk HNk HT2 hlk ⊢
        have HTw := Lib.hid HT2
        have HP0 : Hid (0 < k → 0 < P.length) := fun h => by have := HPos.out k h; rw [hP] at this; exact this
        cases hnew : ptN ix gap k with
        | true =>
          have HE := Lib.hid (HYk.out hnew)
          have HE2 := Lib.hid (upd_add P x)
          have HT3 := Lib.hid (two_add HTw.out x)
          have HL3 := Lib.hid (addP_len P x)
          -- a new part
          have hr1 := (show OwnR _ _ _ _ _ _ _ from HO.out).row
          have HR2 := Lib.hid (World.ownsRow.alloc (World.ownsRow.alloc hr1 (.cells #[.int .i64 x, .int .i64 x] 2)) (.cells #[.slice (some ⟨wr.heap.size, 0, none⟩) 2 2] 39))
          have hnw := cell_one_new (wr.alloc (.cells #[.int .i64 x, .int .i64 x] 2)) (.slice (some ⟨wr.heap.size, 0, none⟩) 2 2) 39
          rw [World.size_alloc] at hnw
          have HNew := Lib.hid hnw
          rw [hnew] at hdk
          clear hr1 hnw HYk HNk HT2 hx
          by_cases hk0 : k = 0
          · subst hk0
            rw [Nat.add_zero] at hck
            clear hdk
            go_wp2_with (at_builtin; refine wpList_append_own _ rfl _ _ 34 rfl w.heap.size 39 i0 (.slice none 0 0) 1 24 Tryd.underlying34 hi hz0 hz1 hz2 rfl (by decide) _ _ _ rfl HR2.out ⟨wr.heap.size + 1, 0, none⟩ 1 1 [.slice (some ⟨wr.heap.size, 0, none⟩) 2 2] rfl rfl HNew.out (by intro u hu; simp at hu; subst hu; rfl) (by unfold maxLen; omega) (by omega) (by simp; omega) ?_)
            intro v' w5 hown' hgr _
            have hb5 : Below w.heap.size w w5 := ((HB.out.alloc hsB _).alloc (by simp; omega) _).grown hgr (by simp; omega) (fun k hk => (HR2.out.lt k hk).1)
            obtain ⟨us5, ho5⟩ := OwnL.snoc HO.out hsB #[.int .i64 x, .int .i64 x] [x, x] rfl (by unfold maxLen; simp) _ hown' hgr
            replace ho5 : OwnL w5 w.heap.size w5.heap.size v' us5 (addP P x) := ho5
            obtain ⟨g', c', rfl⟩ := Joins.ownsRow_form hown' (by omega)
            rw [← HL3.out] at ho5
            obtain ⟨gr, cr, old, hus, hgc, hgf, hglo, hghi, hupd⟩ := OwnL.upd ho5 (by rw [HL3.out]; omega) HT3.out x
            have hrowc := OwnL.at ho5 ((addP P x).length - 1) (by rw [HL3.out]; omega)
            rw [hus] at hrowc
            rw [HL3.out, Nat.add_sub_cancel] at hrowc
            have HU := Lib.hid hupd
            rw [HE2.out] at HU
            have HB2 := Lib.hid (hb5.setCell (p := ⟨gr, 1, none⟩) hglo (.int .i64 x))
            have hgvl := (World.ownsRow.lt (h := (show OwnR _ _ _ _ _ _ _ from ho5).row) g' rfl).2
            obtain ⟨pl, hpl⟩ : ∃ n, P.length = n := ⟨_, rfl⟩
            have k1w : IntKind.i64.wrap (pl : Int) = (pl : Int) := IntWalk.i64_in _ (by omega)
            have HAl : Hid ((addP P x).length = pl + 1) := by show _ = _; rw [HL3.out, hpl]
            rw [HL3.out, hpl] at HU
            rw [hpl] at hrowc ⊢
            clear hown' hgr hb5 ho5 HR2 HNew HO HB hus hupd hpl
            go_wp2
            go_roundw
            case rel => exact ⟨_, _, 1, by omega, by go_num, by rw [HE.out, HAl.out], ⟨us5, by rw [HE.out, HAl.out]; simpa using HU⟩, HB2⟩
            case measure => simp [intOf]; omega
          · have kz : ¬ (k : Int) = 0 := by omega
            obtain ⟨j, hj⟩ : ∃ j, k - 1 = j := ⟨_, rfl⟩
            have kw : IntKind.i64.wrap ((k : Int) - 1) = (j : Int) := by rw [show (k : Int) - 1 = (j : Int) from by omega]; exact IntWalk.i64_in _ (by omega)
            have kj : (j : Int) < (N : Int) := by omega
            have kj0 : (0 : Int) ≤ (j : Int) := by omega
            have hcj := cell_kept HB.out (HC.out j (by omega))
            have hrj := HRg.out j (by omega)
            rw [hj] at hdk
            obtain ⟨y, hy⟩ : ∃ y, ix.getD j 0 = y := ⟨_, rfl⟩
            rw [hy] at hcj hrj hdk
            have kd : IntKind.i64.wrap (x - y) = x - y := IntWalk.i64_in _ (by omega)
            have kg : gap < x - y := by
              have h9 : (decide (k = 0) || decide (gap < x - y)) = true := hdk.symm
              rw [decide_eq_false hk0, Bool.false_or] at h9
              exact of_decide_eq_true h9
            clear hdk hy hj
            go_wp2_with (at_builtin; refine wpList_append_own _ rfl _ _ 34 rfl w.heap.size 39 i0 (.slice none 0 0) 1 24 Tryd.underlying34 hi hz0 hz1 hz2 rfl (by decide) _ _ _ rfl HR2.out ⟨wr.heap.size + 1, 0, none⟩ 1 1 [.slice (some ⟨wr.heap.size, 0, none⟩) 2 2] rfl rfl HNew.out (by intro u hu; simp at hu; subst hu; rfl) (by unfold maxLen; omega) (by omega) (by simp; omega) ?_)
            intro v' w5 hown' hgr _
            have hb5 : Below w.heap.size w w5 := ((HB.out.alloc hsB _).alloc (by simp; omega) _).grown hgr (by simp; omega) (fun k hk => (HR2.out.lt k hk).1)
            obtain ⟨us5, ho5⟩ := OwnL.snoc HO.out hsB #[.int .i64 x, .int .i64 x] [x, x] rfl (by unfold maxLen; simp) _ hown' hgr
            replace ho5 : OwnL w5 w.heap.size w5.heap.size v' us5 (addP P x) := ho5
            obtain ⟨g', c', rfl⟩ := Joins.ownsRow_form hown' (by omega)
            rw [← HL3.out] at ho5
            obtain ⟨gr, cr, old, hus, hgc, hgf, hglo, hghi, hupd⟩ := OwnL.upd ho5 (by rw [HL3.out]; omega) HT3.out x
            have hrowc := OwnL.at ho5 ((addP P x).length - 1) (by rw [HL3.out]; omega)
            rw [hus] at hrowc
            rw [HL3.out, Nat.add_sub_cancel] at hrowc
            have HU := Lib.hid hupd
            rw [HE2.out] at HU
            have HB2 := Lib.hid (hb5.setCell (p := ⟨gr, 1, none⟩) hglo (.int .i64 x))
            have hgvl := (World.ownsRow.lt (h := (show OwnR _ _ _ _ _ _ _ from ho5).row) g' rfl).2
            obtain ⟨pl, hpl⟩ : ∃ n, P.length = n := ⟨_, rfl⟩
            have k1w : IntKind.i64.wrap (pl : Int) = (pl : Int) := IntWalk.i64_in _ (by omega)
            have HAl : Hid ((addP P x).length = pl + 1) := by show _ = _; rw [HL3.out, hpl]
            rw [HL3.out, hpl] at HU
            rw [hpl] at hrowc ⊢
            clear hown' hgr hb5 ho5 HR2 HNew HO HB hus hupd hpl
            go_wp2
            go_roundw
            case rel => exact ⟨_, _, k + 1, by omega, by go_num, by rw [HE.out, HAl.out], ⟨us5, by rw [HE.out, HAl.out]; simpa using HU⟩, HB2⟩
            case measure => simp [intOf]; omega
        | false =>
          have HE := Lib.hid (HNk.out hnew)
          rw [hnew] at hdk
          have hk0 : ¬ k = 0 := fun e => by
            have h9 : (decide (k = 0) || decide (gap < x - ix.getD (k - 1) 0)) = false := hdk.symm
            rw [decide_eq_true e, Bool.true_or] at h9
            cases h9
          have kz : ¬ (k : Int) = 0 := by omega
          obtain ⟨j, hj⟩ : ∃ j, k - 1 = j := ⟨_, rfl⟩
          have kw : IntKind.i64.wrap ((k : Int) - 1) = (j : Int) := by rw [show (k : Int) - 1 = (j : Int) from by omega]; exact IntWalk.i64_in _ (by omega)
          have kj : (j : Int) < (N : Int) := by omega
          have kj0 : (0 : Int) ≤ (j : Int) := by omega
          have hcj := cell_kept HB.out (HC.out j (by omega))
          have hrj := HRg.out j (by omega)
          rw [hj] at hdk
          obtain ⟨y, hy⟩ : ∃ y, ix.getD j 0 = y := ⟨_, rfl⟩
          rw [hy] at hcj hrj hdk
          have kd : IntKind.i64.wrap (x - y) = x - y := IntWalk.i64_in _ (by omega)
          have kg : ¬ gap < x - y := fun h => by
            have h9 : (decide (k = 0) || decide (gap < x - y)) = false := hdk.symm
            rw [decide_eq_true h, Bool.or_true] at h9
            cases h9
          have hPp := HP0.out (by omega)
          obtain ⟨gr, cr, old, hus, hgc, hgf, hglo, hghi, hupd⟩ := OwnL.upd HO.out hPp HTw.out x
          obtain ⟨gv, cv, hform⟩ : ∃ gv cv, Value.slice ao P.length c = .slice (some ⟨gv, 0, none⟩) P.length cv := by
            rcases Joins.ownsRow_forms ((show OwnR _ _ _ _ _ _ _ from HO.out).row) with ⟨e1, h0⟩ | ⟨g1, c1, e1⟩
            · omega
            · exact ⟨g1, c1, e1⟩
          injection hform with hf1 hf2 hf3
          subst hf1 hf3
          have hrowc := OwnL.at HO.out (P.length - 1) (by omega)
          rw [hus] at hrowc
          have HU := Lib.hid hupd
          have HB2 := Lib.hid (HB.out.setCell (p := ⟨gr, 1, none⟩) hglo (.int .i64 x))
          have hgvl := (World.ownsRow.lt (h := (show OwnR _ _ _ _ _ _ _ from HO.out).row) gv rfl).2
          obtain ⟨n1, hn1⟩ : ∃ n, P.length - 1 = n := ⟨_, rfl⟩
          rw [hn1] at hrowc
          obtain ⟨pl, hpl⟩ : ∃ n, P.length = n := ⟨_, rfl⟩
          have k1w : IntKind.i64.wrap ((pl : Int) - 1) = (n1 : Int) := by rw [show (pl : Int) - 1 = (n1 : Int) from by omega]; exact IntWalk.i64_in _ (by omega)
          have k1l : (n1 : Int) < (pl : Int) := by omega
          have k10 : (0 : Int) ≤ (n1 : Int) := by omega
          have HUl : Hid ((updP P x).length = pl) := by show _ = _; rw [updP_len]; exact hpl
          rw [hpl] at HU ⊢
          clear hdk hy hj hus hupd hn1 hpl HYk HNk HT2 hx HO
          go_wp2
          go_roundw
          case rel => exact ⟨_, _, k + 1, by omega, by go_num, by rw [HE.out, HUl.out], ⟨us, by rw [HE.out, HUl.out]; simpa using HU⟩, HB2⟩
          case measure => simp [intOf]; omega
      · obtain rfl : k = N := by omega
        go_wp2_with fail
        go_ret
        exact ⟨_, _, _, rfl, HO.out, HB.out⟩
end Go.Proofs.YtabkkpifkkgpeaaDoor
