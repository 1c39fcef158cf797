/- Contracts of single functions, and plain lemmas, on which the exact laws of this seat rest; each holds under the conditions that it states. -/
import Derived.Test.YtnmnlbgialolhaaDoorGA
import Derived.Test.YtnmnlbgialolhaaDoorRc
namespace Go.Proofs.YtnmnlbgialolhaaDoor
set_option linter.unusedVariables false
set_option linter.unusedSimpArgs false
open Go.RowKit

theorem Far.refl (l r : Nat) (W : World) : Far l r W W := ⟨rfl, rfl, rfl, Nat.le_refl _, fun _ _ _ => rfl⟩
set_option maxHeartbeats 1000000 in
theorem markInt64G9 (base : Nat) (v : Value) (ns : List Int) (k : Nat) (w : World) (hN : ns.length ≤ 1048576) (hk : k ≤ 9000000) (hv : OwnN w base v ns) :
    Calls Tryd.prog 99 #[v, .int .i64 k] w (fun e w' => e = .returned (.int .i64 ((k + ns.length : Nat) : Int)) ∧ OwnN w' base v (marksN k ns.length) ∧ w.grownBy w' v.ownBlock) := by
  rcases Joins.ownsRow_forms hv with ⟨rfl, h0⟩ | ⟨g, cap, rfl⟩
  · obtain rfl := List.length_eq_zero_iff.1 h0
    clear hv
    go_enter Tryd.func99, Tryd.ntmps99
    go_wp2
    refine wp_loop_rounds 1 ?_; rw [rounds_succ]
    go_wp2
    go_ret
    exact ⟨rfl, OwnN.nil _ _, World.grownBy.refl _ _⟩
  · have HH0 := Lib.hid (halfN_zero k ns)
    have HHf := Lib.hid (halfN_full k ns)
    have HAt := Lib.hid (halfN_at k ns)
    have HSet := Lib.hid (halfN_set k ns)
    have hgb : base ≤ g := (hv.lt g rfl).1
    unfold OwnN at hv ⊢
    rw [marksN_len]
    obtain ⟨n, hn⟩ : ∃ n, ns.length = n := ⟨_, rfl⟩
    rw [hn] at HHf HAt HSet hv hN ⊢
    rw [← HH0.out] at hv
    have HV := Lib.hid hv
    clear hv hn
    go_enter Tryd.func99, Tryd.ntmps99
    go_wp2
    go_loopw [1, 5] (fun kv iv wr => ∃ j : Nat, j ≤ n ∧ iv = .int .i64 j ∧ kv = .int .i64 ((k + j : Nat) : Int) ∧ wr.ownsRow base 2 1 (.slice (some ⟨g, 0, none⟩) n cap) n (halfN k ns j) ∧ w.grownBy wr (some g)) (fun _ iv _ => n - (intOf iv).toNat)
    case atStart => exact ⟨0, Nat.zero_le _, rfl, rfl, HV.out, World.grownBy.refl _ _⟩
    case round =>
      clear HV
      obtain ⟨j, hj, rfl, rfl, hown, hbel⟩ := hrel
      by_cases hlt : j < n
      · have hfz := hown.frozenAt j
        have hold := (hown.cellAt j (by omega)).trans (HAt.out j hlt)
        have hst := (hown.stored j (.int .i64 ((k + j : Nat) : Int))).1
        rw [HSet.out j hlt] at hst
        have HS := Lib.hid hst
        have HB := Lib.hid hbel
        have kl : (j : Int) < (n : Int) := by omega
        have kw : wrap64 (((k + j : Nat) : Int) + 1) = ((k + j : Nat) : Int) + 1 := IntWalk.wrap64_in _ (by omega)
        obtain ⟨z, hz⟩ : ∃ z : Int, ((k + j : Nat) : Int) = z := ⟨_, rfl⟩
        have HZ : Hid (((k + (j + 1) : Nat) : Int) = z + 1) := by show _ = _; omega
        have hzb : -9223372036854775808 ≤ z ∧ z ≤ 9223372036854775806 := by omega
        rw [hz] at kw HS ⊢
        clear hst hown hbel hz
        go_wp2
        go_roundw
        case rel => exact ⟨j + 1, by omega, by go_num, by rw [HZ.out], HS.out, HB.out.trans (grown_cell _ _ _)⟩
        case measure => simp [intOf]; omega
      · obtain rfl : j = n := by omega
        rw [HHf.out] at hown
        have HO := Lib.hid hown
        have HB := Lib.hid hbel
        clear hown hbel
        go_wp2
        go_ret
        exact ⟨rfl, HO.out, HB.out⟩


set_option maxHeartbeats 1000000 in
theorem markInt64R9 (lo hi : Nat) (v : Value) (us : Nat → Value) (n : Nat) (f : Nat → List Int) (k : Nat) (w : World) (hN : n ≤ 1048576) (hT : k + offR f n ≤ 9000000) (hf : ∀ i, i < n → (f i).length ≤ 1048576) (hv : OwnR w lo hi v us n f) :
    Calls Tryd.prog 56 #[v, .int .i64 k] w (fun e w' => e = .returned (.int .i64 ((k + offR f n : Nat) : Int)) ∧ OwnR w' lo hi v us n (markR f k) ∧ Far lo hi w w') := by
  rcases Joins.ownsRow_forms hv.row with ⟨rfl, h0⟩ | ⟨g, cap, rfl⟩
  · subst h0
    clear hv
    go_enter Tryd.func56, Tryd.ntmps56
    go_wp2
    refine wp_loop_rounds 1 ?_; rw [rounds_succ]
    go_wp2
    go_ret
    exact ⟨rfl, OwnR.nil _ _ _ _ _, Far.refl _ _ _⟩
  · have HV : Hid (OwnR w lo hi (.slice (some ⟨g, 0, none⟩) n cap) us n (mixR f k 0)) := hv.congr fun i hi' => by simp [mixR]
    have HOf : Hid (∀ j, j < n → k + offR f (j + 1) ≤ 9000000) := fun j hj => by have := offR_le f (show j + 1 ≤ n by omega); omega
    clear hv hT
    go_enter Tryd.func56, Tryd.ntmps56
    go_wp2
    go_loopw [1, 5] (fun kv iv wr => ∃ j : Nat, j ≤ n ∧ iv = .int .i64 j ∧ kv = .int .i64 ((k + offR f j : Nat) : Int) ∧ Hid (OwnR wr lo hi (.slice (some ⟨g, 0, none⟩) n cap) us n (mixR f k j)) ∧ Hid (Far lo hi w wr)) (fun _ iv _ => n - (intOf iv).toNat)
    case atStart => exact ⟨0, Nat.zero_le _, rfl, rfl, HV.out, Far.refl _ _ _⟩
    case round =>
      clear HV
      obtain ⟨j, hj, rfl, rfl, HO, HB⟩ := hrel
      by_cases hlt : j < n
      · have hcell := HO.out.row.cellAt j (by omega)
        have hat : ((List.range n).map us)[j]? = some (us j) := by simp [hlt]
        rw [hat] at hcell
        have hrow : OwnN wr lo (us j) (f j) := by have := HO.out.each j hlt; unfold mixR at this; rwa [if_neg (by omega)] at this
        have hof := HOf.out j hlt
        have hof' : k + offR f j + (f j).length ≤ 9000000 := by have e : offR f (j + 1) = offR f j + (f j).length := rfl; rw [e] at hof; omega
        have CM := Lib.hid (markInt64G9 lo (us j) (f j) (k + offR f j) wr (hf j hlt) (by omega) hrow)
        have HW : Hid (∀ W', OwnN W' lo (us j) (markR f k j) → wr.grownBy W' (us j).ownBlock → OwnR W' lo hi (.slice (some ⟨g, 0, none⟩) n cap) us n (mixR f k (j + 1)) ∧ Far lo hi w W') := fun W' ho hg =>
          ⟨(HO.out.wrote hlt ho hg).congr fun i hi' => by
            unfold mixR
            by_cases e : i = j
            · subst e; rw [if_pos rfl, if_pos (by omega)]
            · rw [if_neg e]
              by_cases e2 : i < j
              · rw [if_pos e2, if_pos (by omega)]
              · rw [if_neg e2, if_neg (by omega)],
           HB.out.trans (Far.ofG hg fun q hq => ⟨(hrow.lt q hq).1, HO.out.up j hlt q hq⟩)⟩
        · obtain ⟨ax, nx, cx, ex⟩ : ∃ ao n cap, us j = .slice ao n cap := by
            rcases Joins.ownsRow_forms hrow with ⟨e, _⟩ | ⟨g, cap, e⟩
            · exact ⟨_, _, _, e⟩
            · exact ⟨_, _, _, e⟩
          rw [ex] at hcell CM HW
          have HM : Hid (((k + offR f (j + 1) : Nat) : Int) = ((k + offR f j + (f j).length : Nat) : Int)) := by show _ = _; rw [show k + offR f (j + 1) = k + offR f j + (f j).length from (Nat.add_assoc _ _ _).symm]
          have kl : (j : Int) < (n : Int) := by omega
          obtain ⟨q, hq⟩ : ∃ q, k + offR f j + (f j).length = q := ⟨_, rfl⟩
          rw [hq] at CM HM
          clear hat hrow hof hof' HO HB hq
          go_wp2_with fail
          refine CM.out.mono ?_
          rintro e w2 ⟨rfl, ho2, hg2⟩
          have H2 := HW.out w2 ho2 hg2
          have HO2 := Lib.hid H2.1
          have HB2 := Lib.hid H2.2
          clear ho2 hg2 H2 CM hcell
          go_wp2
          go_roundw
          case rel => exact ⟨j + 1, by omega, by go_num, by rw [HM.out], HO2, HB2⟩
          case measure => simp [intOf]; omega
      · obtain rfl : j = n := by omega
        have HO2 : Hid (OwnR wr lo hi (.slice (some ⟨g, 0, none⟩) j cap) us j (markR f k)) := HO.out.congr fun i hi' => by unfold mixR; rw [if_pos hi']
        clear HO
        go_wp2
        go_ret
        exact ⟨rfl, HO2.out, HB.out⟩


/-! ### grey pictures -/
def rowF (gs : List (List Int)) (i : Nat) : List Int := gs.getD i []
def SlG (W : World) (v : Value) (gs : List (List Int)) : Prop := SlR W v gs.length (rowF gs)
theorem SlG.below {W W' : World} {v : Value} {gs : List (List Int)} (h : SlG W v gs) (hb : Below W.heap.size W W') : SlG W' v gs := SlR.below h hb
/-- all numbers together -/
def totG (gs : List (List Int)) : Nat := offR (rowF gs) gs.length
def OwnG (W : World) (lo hi : Nat) (v : Value) (gs : List (List Int)) : Prop := ∃ us, OwnR W lo hi v us gs.length (rowF gs)
/-- .. in a stretch of blocks -/
def GreyO (lo hi : Nat) (v : Value) (gs : List (List Int)) (W : World) : Prop := OwnG W lo hi v gs ∧ hi ≤ W.heap.size
theorem GreyO.liv {lo hi : Nat} {v : Value} {gs : List (List Int)} : Liv lo hi (GreyO lo hi v gs) := by
  intro l r W W' hf hd h
  obtain ⟨⟨us, h1⟩, h2⟩ := h
  exact ⟨⟨us, h1.keep fun k hk1 hk2 => hf.block k (by omega) (by omega)⟩, Nat.le_trans h2 hf.size⟩
theorem GreyO.of {W : World} {lo : Nat} {v : Value} {gs : List (List Int)} (h : OwnG W lo W.heap.size v gs) (hh : W.heap.size ≤ W.heap.size) : GreyO lo W.heap.size v gs W := ⟨h, Nat.le_refl _⟩
theorem GreyO.sl {W : World} {lo hi : Nat} {v : Value} {gs : List (List Int)} (h : GreyO lo hi v gs W) : SlG W v gs := by
  obtain ⟨⟨us, h1⟩, _⟩ := h
  exact h1.sl
theorem OwnG.sl {W : World} {lo hi : Nat} {v : Value} {gs : List (List Int)} (h : OwnG W lo hi v gs) : SlG W v gs := by
  obtain ⟨us, h1⟩ := h
  exact h1.sl
/-- the marks of all numbers, from k on -/
def marksG (k : Nat) (gs : List (List Int)) : List (List Int) := (List.range gs.length).map (markR (rowF gs) k)
theorem marksG_len (k : Nat) (gs : List (List Int)) : (marksG k gs).length = gs.length := by simp [marksG]
theorem marksG_row (k : Nat) (gs : List (List Int)) (i : Nat) (h : i < gs.length) : rowF (marksG k gs) i = markR (rowF gs) k i := by
  show ((List.range gs.length).map (markR (rowF gs) k)).getD i [] = _
  rw [List.getD_eq_getElem?_getD]
  simp [h]
theorem SlG.marks {W : World} {v : Value} {k : Nat} {gs : List (List Int)} (h : SlG W v (marksG k gs)) : SlR W v gs.length (markR (rowF gs) k) := by
  unfold SlG at h
  rw [marksG_len] at h
  rcases h with h | ⟨b, off, cap, us, h1, h2, h3, h4⟩
  · exact Or.inl h
  · refine Or.inr ⟨b, off, cap, us, h1, h2, h3, fun i hi => ⟨(h4 i hi).1, ?_⟩⟩
    rw [← marksG_row k gs i hi]
    exact (h4 i hi).2
def TookG (w : World) (gs : List (List Int)) (e : Ending) (w' : World) : Prop := ∃ g cap, e = .returned (.agg #[.slice (some ⟨g, 0, none⟩) gs.length cap]) ∧ OwnG w' w.heap.size w'.heap.size (.slice (some ⟨g, 0, none⟩) gs.length cap) gs ∧ Below w.heap.size w w'
theorem infoGr : (Tryd.prog.info? 35).map (·.size) = some 1 := by kernel_rfl

theorem toGrey_any (v : Value) (gs : List (List Int)) (w : World) (hN : gs.length ≤ 1048576) (hf : ∀ i, i < gs.length → (rowF gs i).length ≤ 1048576) (hv : SlG w v gs) :
    Calls Tryd.prog 26 #[.agg #[v]] w (TookG w gs) := by
  have HB0 := Lib.hid (Joins.below_alloc3 w (.cells #[v] 40) (.cells #[.slice none 0 0] 35) (.cells #[.slice none 0 0] 35))
  have h3 := heap_alloc_last ((w.alloc (.cells #[v] 40)).alloc (.cells #[.slice none 0 0] 35)) (.cells #[.slice none 0 0] 35)
  have h2 : (((w.alloc (.cells #[v] 40)).alloc (.cells #[.slice none 0 0] 35)).alloc (.cells #[.slice none 0 0] 35)).heap[w.heap.size + 1]? = some (.cells #[.slice none 0 0] 35 (0, 0)) := by
    rw [Below.heap_alloc _ _ _ (by simp)]
    have := heap_alloc_last (w.alloc (.cells #[v] 40)) (.cells #[.slice none 0 0] 35)
    rwa [World.size_alloc] at this
  simp only [World.size_alloc] at h3
  have H2 := Lib.hid h2
  have H3 := Lib.hid h3
  have C := Lib.hid (toInt64SS_R v gs.length (rowF gs) _ hN hf (hv.below HB0.out))
  have hs0 : (((w.alloc (.cells #[v] 40)).alloc (.cells #[.slice none 0 0] 35)).alloc (.cells #[.slice none 0 0] 35)).heap.size = w.heap.size + 1 + 1 + 1 := by simp
  unfold TookR at C
  clear h2 h3 hv
  go_enter Tryd.func26, Tryd.ntmps26
  go_wp2_with fail
  refine C.out.mono ?_
  rintro e w1 ⟨g, cap, rfl, ⟨us, hown⟩, hb⟩
  rw [hs0] at hown hb
  have P2 := Lib.hid ((hb.block (w.heap.size + 1) (by omega)).trans H2.out)
  have P3 := Lib.hid ((hb.block (w.heap.size + 1 + 1) (by omega)).trans H3.out)
  have B1 := Lib.hid (HB0.out.trans (hb.mono (by omega)))
  have O1 := Lib.hid hown
  have c2 := cell_of_one P2.out
  have c3 := cell_of_one P3.out
  have f2 := free_of_one P2.out
  have f3 := free_of_one P3.out
  have l2 := (Array.getElem?_eq_some_iff.1 P2.out).1
  have l3 := (Array.getElem?_eq_some_iff.1 P3.out).1
  have P2' : Hid ((w1.setCell ⟨w.heap.size + 1 + 1, 0, none⟩ (.slice (some ⟨g, 0, none⟩) gs.length cap)).heap[w.heap.size + 1]? = some (.cells #[.slice none 0 0] 35 (0, 0))) := (Below.heap_setCell _ _ _ _ (by simp)).trans P2.out
  have O2 : Hid (OwnR ((w1.setCell ⟨w.heap.size + 1 + 1, 0, none⟩ (.slice (some ⟨g, 0, none⟩) gs.length cap)).setCell ⟨w.heap.size + 1, 0, none⟩ (.slice (some ⟨g, 0, none⟩) gs.length cap)) w.heap.size w1.heap.size (.slice (some ⟨g, 0, none⟩) gs.length cap) us gs.length (rowF gs)) :=
    (O1.out.keep fun k hk _ => (Below.heap_setCell _ ⟨w.heap.size + 1, 0, none⟩ _ k (by show k ≠ w.heap.size + 1; omega)).trans (Below.heap_setCell _ ⟨w.heap.size + 1 + 1, 0, none⟩ _ k (by show k ≠ w.heap.size + 1 + 1; omega))).mono (by omega) (Nat.le_refl _)
  have B2 := Lib.hid ((B1.out.setCell (p := ⟨w.heap.size + 1 + 1, 0, none⟩) (by simp; omega) (.slice (some ⟨g, 0, none⟩) gs.length cap)).setCell (p := ⟨w.heap.size + 1, 0, none⟩) (by simp) (.slice (some ⟨g, 0, none⟩) gs.length cap))
  clear hown hb
  go_wp2_with fail
  exact bodyPost_ret (results_cell1 (p := 2) (ty := 35) Tryd.results26 _ _ (w.heap.size + 1) 35 #[.slice (some ⟨g, 0, none⟩) gs.length cap] (0, 0) _ rfl (one_setCell P2'.out) Tryd.underlying35 rfl infoGr) rfl ⟨_, _, rfl, ⟨us, O2.out.mono (Nat.le_refl _) (by simp [World.setCell])⟩, B2.out⟩

def SomeSzG (left : Int) (gs : List (List Int)) (w : World) (e : Ending) (w' : World) : Prop :=
  ∃ r : Int, e = .returned (.int .i64 r) ∧ r ≤ left ∧ -1 ≤ r ∧ (0 ≤ r → (gs.length : Int) + (totG gs : Nat) ≤ left) ∧ Below w.heap.size w w'
theorem szGrey_any (v : Value) (gs : List (List Int)) (left : Int) (w : World) (h0 : 0 ≤ left) (h1 : left ≤ 1048576) (hN : gs.length ≤ maxLen) (hf : ∀ i, i < gs.length → (rowF gs i).length ≤ maxLen) (hv : SlG w v gs) :
    Calls Tryd.prog 24 #[.agg #[v], .int .i64 left] w (SomeSzG left gs w) := by
  have C := Lib.hid (szInt64SS_R v gs.length (rowF gs) left (w.alloc (.cells #[v] 40)) h0 h1 hN hf (hv.below (Joins.below_alloc1 w _)))
  unfold SomeSzR at C
  clear hv hN hf
  go_enter Tryd.func24, Tryd.ntmps24
  go_wp2_with fail
  refine C.out.mono ?_
  rintro e w' ⟨r, rfl, h2, h3, h4, hb⟩
  have HB := Lib.hid ((Joins.below_alloc1 w (.cells #[v] 40)).trans (hb.mono (by simp)))
  have H4 := Lib.hid h4
  clear hb h4
  by_cases hr : r < 0
  · go_wp2_with fail
    go_ret
    exact ⟨_, rfl, by omega, by omega, fun h => absurd h (by decide), HB.out⟩
  · go_wp2_with fail
    go_ret
    exact ⟨_, rfl, by omega, by omega, H4.out, HB.out⟩
theorem eqGrey_same (u v : Value) (gs : List (List Int)) (w : World) (hN : gs.length ≤ 1048576) (hf : ∀ i, i < gs.length → (rowF gs i).length ≤ maxLen) (hu : SlG w u gs) (hv : SlG w v gs) :
    Calls Tryd.prog 21 #[.agg #[u], .agg #[v]] w (SaysB true w) := by
  have C := Lib.hid (fun w' (hb : Below w.heap.size w w') => eqInt64R u v gs.length (rowF gs) w' hN hf (hu.below hb) (hv.below hb))
  clear hu hv hf
  go_enter Tryd.func21, Tryd.ntmps21
  go_wp2_with fail
  refine (C.out _ (Joins.below_alloc2 w _ _)).mono ?_
  rintro e w' ⟨rfl, hb⟩
  have HB := Lib.hid ((Joins.below_alloc2 w (.cells #[u] 35) (.cells #[v] 35)).trans (hb.mono (by simp; omega)))
  clear hb
  go_wp2_with fail
  go_ret
  exact ⟨rfl, HB.out⟩
theorem mark_grey (v : Value) (gs : List (List Int)) (lo hi k : Nat) (w : World) (hN : gs.length ≤ 1048576) (hf : ∀ i, i < gs.length → (rowF gs i).length ≤ 1048576) (h2 : k + totG gs ≤ 9000000) (h : GreyO lo hi v gs w) :
    Calls Tryd.prog 22 #[.agg #[v], .int .i64 k] w (fun e w' => e = .returned (.int .i64 ((k + totG gs : Nat) : Int)) ∧ GreyO lo hi v (marksG k gs) w' ∧ Far lo hi w w') := by
  obtain ⟨⟨us, h1⟩, hh⟩ := h
  have hb := Joins.below_alloc1 w (.cells #[v] 35)
  have C := Lib.hid (markInt64R9 lo hi v us gs.length (rowF gs) k (w.alloc (.cells #[v] 35)) hN h2 hf (h1.below hh hb))
  have HF : Hid (Far lo hi w (w.alloc (.cells #[v] 35))) := ⟨rfl, rfl, rfl, by simp, fun k hk _ => hb.block k hk⟩
  have HH := Lib.hid hh
  have hs0 : hi ≤ (w.alloc (.cells #[v] 35)).heap.size := by simp; omega
  clear h1 hb hf
  have HT : Hid (totG gs = offR (rowF gs) gs.length) := rfl
  go_enter Tryd.func22, Tryd.ntmps22
  go_wp2_with fail
  refine C.out.mono ?_
  rintro e w' ⟨rfl, hown, hg⟩
  have HO := Lib.hid hown
  have HG := Lib.hid (HF.out.trans hg)
  have HZ := Lib.hid hg.size
  clear hown hg
  go_wp2_with fail
  go_ret
  refine ⟨rfl, ⟨⟨us, ?_⟩, Nat.le_trans hs0 HZ.out⟩, HG.out⟩
  rw [marksG_len]
  exact HO.out.congr fun i hi => (marksG_row k gs i hi).symm
theorem heldGrey_any (v : Value) (gs : List (List Int)) (k : Nat) (w : World) (hN : gs.length ≤ 1048576) (h2 : k + totG gs ≤ 1048576) (hv : SlG w v (marksG k gs)) :
    Calls Tryd.prog 23 #[.agg #[v], .int .i64 k] w (fun e w' => e = .returned (.int .i64 ((k + totG gs : Nat) : Int)) ∧ Below w.heap.size w w') := by
  have C := Lib.hid (heldInt64R v gs.length (rowF gs) k (w.alloc (.cells #[v] 35)) hN h2 (hv.below (Joins.below_alloc1 w _)).marks)
  have hp : ¬ ((k + totG gs : Nat) : Int) < 0 := by omega
  rw [show offR (rowF gs) gs.length = totG gs from rfl] at C
  obtain ⟨r, hr⟩ : ∃ r : Int, ((k + totG gs : Nat) : Int) = r := ⟨_, rfl⟩
  rw [hr] at C hp ⊢
  clear hr hv
  go_enter Tryd.func23, Tryd.ntmps23
  go_wp2_with fail
  refine C.out.mono ?_
  rintro e w' ⟨rfl, hb⟩
  have HB := Lib.hid ((Joins.below_alloc1 w (.cells #[v] 35)).trans (hb.mono (by simp)))
  clear hb
  go_wp2_with fail
  go_ret
  exact ⟨rfl, HB.out⟩
theorem offR_row (f : Nat → List Int) : ∀ {n i : Nat}, i < n → (f i).length ≤ offR f n
  | 0, i, h => absurd h (Nat.not_lt_zero i)
  | n + 1, i, h => by
    show _ ≤ offR f n + (f n).length
    by_cases e : i = n
    · subst e; omega
    · have := offR_row f (n := n) (i := i) (by omega)
      omega
theorem rows_small {gs : List (List Int)} (h : gs.length + totG gs ≤ 1048576) : ∀ i, i < gs.length → (rowF gs i).length ≤ 1048576 := fun i hi => by
  have := offR_row (rowF gs) hi
  unfold totG at h
  omega
theorem rows_max {gs : List (List Int)} (h : gs.length + totG gs ≤ 1048576) : ∀ i, i < gs.length → (rowF gs i).length ≤ maxLen := fun i hi => by
  have := rows_small h i hi
  unfold maxLen; omega
theorem offR_bound (f : Nat → List Int) (c : Nat) : ∀ n, (∀ i, i < n → (f i).length ≤ c) → offR f n ≤ n * c
  | 0, _ => by simp [offR]
  | n + 1, h => by
    have h1 := offR_bound f c n (fun i hi => h i (by omega))
    have h2 := h n (by omega)
    show offR f n + (f n).length ≤ _
    rw [Nat.add_mul, Nat.one_mul]
    omega
theorem small_grey {gs : List (List Int)} (h1 : gs.length ≤ 16) (h2 : ∀ i, i < gs.length → (rowF gs i).length ≤ 16) : gs.length + totG gs ≤ 1000 := by
  have := offR_bound (rowF gs) 16 gs.length h2
  unfold totG
  omega
/-- a grey picture and a bool handed back -/
def SaysGrey (gs : List (List Int)) (ok : Bool) (w : World) (e : Ending) (w' : World) : Prop :=
  ∃ ao n cap, e = .returned (.tuple #[.agg #[.slice ao n cap], .bool ok]) ∧ OwnG w' w.heap.size w'.heap.size (.slice ao n cap) gs ∧ Below w.heap.size w w'
end Go.Proofs.YtnmnlbgialolhaaDoor
