/- Contracts of single functions, and plain lemmas, on which the exact laws of this seat rest; each holds under the conditions that it states. -/
import Derived.Test.YtakaglbbcaplhaaDoorW7
import Derived.Test.YtakaglbbcaplhaaDoorW8
import Derived.Test.YtakaglbbcaplhaaDoorS6
namespace Go.Proofs.YtakaglbbcaplhaaDoor
set_option linter.unusedVariables false
set_option linter.unusedSimpArgs false
open Go.RowKit

/-! ### the parts around the middle of 3 by 3 -/
theorem putL_len (n : Int) (xs : List Int) : (putL n xs).length ≤ 2 * xs.length + 1 := by
  have := putG_len n xs
  unfold putL
  split
  · omega
  · simp; omega
def mid3 (d : Int × Int) : Nat := ((1 + d.2) * 3 + 1 + d.1).toNat
def seenS (PS : List (Nat → Bool)) (sn : List Int) (d : Int × Int) : List Int := if 0 < lab PS (mid3 d) then putL ((lab PS (mid3 d) : Nat) : Int) sn else sn
def seenL (PS : List (Nat → Bool)) (S : List (Int × Int)) : List Int := S.foldl (seenS PS) []
theorem seenL_snoc (PS : List (Nat → Bool)) (S : List (Int × Int)) (d : Int × Int) : seenL PS (S ++ [d]) = seenS PS (seenL PS S) d := by simp [seenL]
theorem seenL_len (PS : List (Nat → Bool)) (S : List (Int × Int)) : ∀ j, (seenL PS (S.take j)).length + 1 ≤ 2 ^ j
  | 0 => by simp [seenL]
  | j + 1 => by
    have ih := seenL_len PS S j
    have hp : 2 ^ (j + 1) = 2 * 2 ^ j := by rw [Nat.pow_succ, Nat.mul_comm]
    by_cases hj : j < S.length
    · have e : S.take (j + 1) = S.take j ++ [S[j]] := by rw [List.take_add_one, List.getElem?_eq_getElem hj]; rfl
      rw [e, seenL_snoc]
      unfold seenS
      split
      · have := putL_len ((lab PS (mid3 S[j]) : Nat) : Int) (seenL PS (S.take j))
        omega
      · omega
    · have e : S.take (j + 1) = S.take j := by rw [List.take_of_length_le (by omega), List.take_of_length_le (by omega)]
      rw [e]
      omega
noncomputable def partsN (ss : List ByteArray) (e8 : Bool) : Nat :=
  (seenL (partsP (pixI ss) (stepL e8) (row0 ss).size (spL (pixF ss) (row0 ss).size ((row0 ss).size * ss.length)) []) (stepL e8)).length
theorem mid3_rng (e8 : Bool) : ∀ d ∈ stepL e8, 0 ≤ (1 + d.2) * 3 + 1 + d.1 ∧ (1 + d.2) * 3 + 1 + d.1 < 9 := by cases e8 <;> decide

set_option maxHeartbeats 4000000 in
set_option maxRecDepth 100000 in
theorem l05Parts_any (pb po : Nat) (ss : List ByteArray) (e8 : Bool) (w : World) (hp : PicAt w pb po ss) (h31 : (row0 ss).size = 3) (h32 : ss.length = 3) :
    Calls Tryd.prog 129 #[.pointer (some ⟨pb, po, none⟩), .bool e8] w (fun e w' => e = .returned (.int .i64 ((partsN ss e8 : Nat) : Int)) ∧ Below w.heap.size w w') := by
  have C := Lib.hid (l05Labels_any pb po ss e8 w hp)
  have HN : Hid (partsN ss e8 = (seenL (partsP (pixI ss) (stepL e8) (row0 ss).size (spL (pixF ss) (row0 ss).size ((row0 ss).size * ss.length)) []) (stepL e8)).length) := rfl
  obtain ⟨PS0, hPS0⟩ : ∃ q, partsP (pixI ss) (stepL e8) (row0 ss).size (spL (pixF ss) (row0 ss).size ((row0 ss).size * ss.length)) [] = q := ⟨_, rfl⟩
  rw [hPS0] at HN C
  have h9 : (row0 ss).size * ss.length = 9 := by rw [h31, h32]
  rw [h9] at C
  have HR := Lib.hid (mid3_rng e8)
  have HSl : Hid ((stepL e8).length ≤ 8 ∧ 0 < (stepL e8).length) := by show _ ∧ _; cases e8 <;> decide
  have HSr := Lib.hid (stepL_rng e8)
  clear hp h31 h32 h9 hPS0
  go_enter Tryd.func129, Tryd.ntmps129
  go_wp2_with fail
  refine C.out.mono ?_
  rintro e w1 ⟨g, PS, rfl, rfl, ho1, hb1⟩
  have hlb := (ho1.lt g rfl).2
  have HLn := Lib.hid (fun j => seenL_len PS (stepL e8) j)
  have HB1 := Lib.hid hb1
  have HC1 : Hid (∀ W, Below w1.heap.size w1 W → ∀ k, k < 9 → W.cell? ⟨g, k, none⟩ = some (.int .i64 ((lab PS k : Nat) : Int))) := fun W hb k hk => by
    have h := ho1.below hb
    unfold OwnN at h
    rw [labL_len] at h
    have h1 := World.ownsRow.cellAt h k (by omega)
    rw [h1]
    unfold numsV labL
    simp [hk]
  clear ho1 hb1 C hlb
  go_wp2_with fail
  refine (l03Steps_any e8 _).mono ?_
  rintro e w2 ⟨sao, sn, scap, rfl, hso, hb2⟩
  obtain ⟨S, hS⟩ : ∃ S, stepL e8 = S := ⟨_, rfl⟩
  rw [hS] at HR HSl HN hso HLn HSr
  obtain ⟨sg, sc, hse⟩ := Joins.ownsRow_form hso HSl.out.2
  cases hse
  have HB2 : Hid (Below w1.heap.size w1 w2) := (Joins.below_alloc1 w1 (.cells #[] 2)).trans (hb2.mono (by simp))
  have HSp : Hid (∀ W, Below w2.heap.size w2 W → Spots W sg S) := fun W hb => (OwnS.spots hso).below hb
  have hA : OwnN (w1.alloc (.cells #[] 2)) w1.heap.size (.slice (some ⟨w1.heap.size, 0, none⟩) 0 0) [] := World.ownsRow_lit (base := w1.heap.size) (e := 2) (size := 1) w1 #[] 0 (Nat.le_refl _) (by unfold maxLen; omega) rfl
  have HA : Hid (SlN w2 (.slice (some ⟨w1.heap.size, 0, none⟩) 0 0) (seenL PS (S.take 0))) := (OwnN.sl hA).below hb2
  obtain ⟨m, hm⟩ : ∃ m, S.length = m := ⟨_, rfl⟩
  have HM := Lib.hid hm
  rw [hm] at HSl ⊢
  have hm8 := HSl.out.1
  clear hso hb2 hA hm hS
  go_wp2
  go_loopw [7, 9] (fun ov jv wr => ∃ j : Nat, j ≤ m ∧ jv = .int .i64 j ∧ (∃ ao k cap, ov = .slice ao k cap) ∧ Hid (SlN wr ov (seenL PS (S.take j))) ∧ Hid (Below w2.heap.size w2 wr)) (fun _ jv _ => m - (intOf jv).toNat)
  case atStart => exact ⟨0, Nat.zero_le _, rfl, ⟨_, _, _, rfl⟩, HA.out, Below.refl _ _⟩
  case round =>
    clear HA
    obtain ⟨j, hjm, rfl, ⟨ao, k, cap, rfl⟩, HO, HB⟩ := hrel
    have hs := HB.out.size
    have hlen := HLn.out j
    have hpow : 2 ^ j ≤ 2 ^ 8 := Nat.pow_le_pow_right (by omega) (by omega)
    by_cases hlt : j < m
    · have klt : (j : Int) < (m : Int) := by omega
      have hjS : j < S.length := by rw [HM.out]; exact hlt
      obtain ⟨⟨dx, dy⟩, hdj⟩ : ∃ d, S[j]? = some d := ⟨S[j], List.getElem?_eq_getElem hjS⟩
      have hde : S.getD j (0, 0) = (dx, dy) := by rw [List.getD_eq_getElem?_getD, hdj]; rfl
      have ds := (HSp.out _ HB.out).2 j hjS
      rw [hde] at ds
      have s0 := ds.1
      have s1 := ds.2
      simp only at s0 s1
      have hr := HR.out _ (List.mem_of_getElem? hdj)
      have hr2 := HSr.out _ (List.mem_of_getElem? hdj)
      simp only at hr hr2
      obtain ⟨r1, r2⟩ := hr
      obtain ⟨⟨r3, r4⟩, r5, r6⟩ := hr2
      have htk : S.take (j + 1) = S.take j ++ [(dx, dy)] := by rw [List.take_add_one, hdj]; rfl
      have hsn := seenL_snoc PS (S.take j) (dx, dy)
      rw [← htk] at hsn
      obtain ⟨sn, hsnn⟩ : ∃ q, seenL PS (S.take j) = q := ⟨_, rfl⟩
      rw [hsnn] at hsn hlen HO
      have hmd : mid3 (dx, dy) < 9 := by show ((1 + dy) * 3 + 1 + dx).toNat < 9; omega
      have hci := HC1.out wr (HB2.out.trans (HB.out.mono HB2.out.size)) (mid3 (dx, dy)) hmd
      have hmi : mid3 (dx, dy) = ((1 + dy) * 3 + 1 + dx).toNat := rfl
      unfold seenS at hsn
      obtain ⟨c, hc⟩ : ∃ c, lab PS (mid3 (dx, dy)) = c := ⟨_, rfl⟩
      rw [hc] at hci hsn
      rw [hmi] at hci
      have e1 : IntKind.i64.wrap (1 + dy) = 1 + dy := IntWalk.i64_in _ (by omega)
      have e2 : IntKind.i64.wrap ((1 + dy) * 3) = (1 + dy) * 3 := IntWalk.i64_in _ (by omega)
      have e3 : IntKind.i64.wrap ((1 + dy) * 3 + 1) = (1 + dy) * 3 + 1 := IntWalk.i64_in _ (by omega)
      have e4 : IntKind.i64.wrap ((1 + dy) * 3 + 1 + dx) = (1 + dy) * 3 + 1 + dx := IntWalk.i64_in _ (by omega)
      have HSn := Lib.hid hsn
      have HBw : Hid (∀ i, Below w2.heap.size w2 (wr.drewN i)) := fun i => HB.out.trans (Joins.below_draws w2.heap.size _ _)
      have HOw : Hid (∀ i, SlN (wr.drewN i) (.slice ao k cap) sn) := fun i => HO.out.below (Joins.below_draws wr.heap.size _ _)
      clear ds hde hdj htk hsn hsnn hmd hmi hc HO HB
      by_cases hc0 : 0 < c
      · have hP := HSn.out
        rw [if_pos hc0] at hP
        have HP := Lib.hid hP
        clear hP HSn
        go_wp2
        go_quiet (fail)
        have HB3 := Lib.hid (HBw.out nq)
        have HO3 := Lib.hid (HOw.out nq)
        obtain ⟨W3, hW3⟩ : ∃ W3, wr.drewN nq = W3 := ⟨_, rfl⟩
        rw [hW3] at HB3 HO3 ⊢
        have CP := Lib.hid (l00Put_any (.slice ao k cap) sn (c : Int) W3 (by omega) HO3.out)
        clear hW3 HBw HOw hci e1 e2 e3 e4 s0 s1 hpow
        go_wp2_with fail
        refine CP.out.mono ?_
        rintro e w4 ⟨ao4, k4, cap4, rfl, ho4, hb4⟩
        have HO4 : Hid (SlN w4 (.slice ao4 k4 cap4) (seenL PS (S.take (j + 1)))) := by show SlN _ _ _; rw [HP.out]; exact OwnN.sl ho4
        have HB4 := Lib.hid (HB3.out.trans (hb4.mono HB3.out.size))
        clear ho4 hb4 HO3 HB3 CP
        go_wp2
        go_roundw
        case rel => exact ⟨j + 1, by omega, by go_num, ⟨_, _, _, rfl⟩, HO4, HB4⟩
        case measure => simp [intOf]; omega
      · have hP := HSn.out
        rw [if_neg hc0] at hP
        have HP := Lib.hid hP
        clear hP HSn
        go_wp2
        go_quiet (fail)
        go_wp2
        go_roundw
        case rel => exact ⟨j + 1, by omega, by go_num, ⟨_, _, _, rfl⟩, by rw [HP.out]; exact HOw.out _, HBw.out _⟩
        case measure => simp [intOf]; omega
    · obtain rfl : j = m := by omega
      have hki : ¬ (j : Int) < (j : Int) := by omega
      have htk : S.take j = S := List.take_of_length_le (by rw [HM.out]; exact Nat.le_refl _)
      obtain ⟨ao', cap', he⟩ := SlN.form HO.out
      rw [htk, ← HN.out] at he
      cases he
      have hs1 := HB1.out.size
      have HB3 : Hid (Below w.heap.size w wr) := (HB1.out.trans (HB2.out.mono hs1)).trans (HB.out.mono (Nat.le_trans hs1 HB2.out.size))
      clear HO HB htk hpow hlen
      go_wp2
      go_ret
      exact ⟨rfl, HB3.out⟩
end Go.Proofs.YtakaglbbcaplhaaDoor

/- Contracts of single functions, and plain lemmas, on which the exact laws of this seat rest; each holds under the conditions that it states. -/
namespace Go.Proofs.YtakaglbbcaplhaaDoor
set_option linter.unusedVariables false
set_option linter.unusedSimpArgs false
open Go.RowKit

/-- is a black pixel simple -/
noncomputable def simN (p : Int → Int → Bool) (x y : Int) (e8 : Bool) : Bool :=
  decide (partsN (mkPic 3 3 (arF p true x y)) e8 = 1) && decide (partsN (mkPic 3 3 (arF p false x y)) (!e8) = 1)

set_option maxHeartbeats 4000000 in
set_option maxRecDepth 100000 in
theorem l05Simple_any (pb po : Nat) (ss : List ByteArray) (x y : Int) (e8 : Bool) (w : World) (hx : -40 ≤ x ∧ x ≤ 40) (hy : -40 ≤ y ∧ y ≤ 40) (hp : PicAt w pb po ss) :
    Calls Tryd.prog 55 #[.pointer (some ⟨pb, po, none⟩), .int .i64 x, .int .i64 y, .bool e8] w (fun e w' => e = .returned (.bool (simN (pixI ss) x y e8)) ∧ Below w.heap.size w w') := by
  have CA := Lib.hid (fun (bl : Bool) W (h : PicAt W pb po ss) => l05Around_any pb po ss x y bl W hx hy h)
  have HPA := Lib.hid hp
  have CP : Hid (∀ (gb : Nat) (bl e : Bool) (W : World), PicAt W gb 0 (mkPic 3 3 (arF (pixI ss) bl x y)) → Calls Tryd.prog 129 #[.pointer (some ⟨gb, 0, none⟩), .bool e] W (fun e' w' => e' = .returned (.int .i64 ((partsN (mkPic 3 3 (arF (pixI ss) bl x y)) e : Nat) : Int)) ∧ Below W.heap.size W w')) := fun gb bl e W h =>
    l05Parts_any gb 0 _ e W h (mkPic_row0 3 3 _ (by omega)) (mkPic_len _ _ _)
  have HV : Hid (∀ f, validB (mkPic 3 3 f) = true) := fun f => mkPic_valid 3 3 f ⟨by omega, by omega⟩ ⟨by omega, by omega⟩
  have HS : Hid (simN (pixI ss) x y e8 = (decide (partsN (mkPic 3 3 (arF (pixI ss) true x y)) e8 = 1) && decide (partsN (mkPic 3 3 (arF (pixI ss) false x y)) (!e8) = 1))) := rfl
  obtain ⟨P1, hP1⟩ : ∃ P, mkPic 3 3 (arF (pixI ss) true x y) = P := ⟨_, rfl⟩
  obtain ⟨P2, hP2⟩ : ∃ P, mkPic 3 3 (arF (pixI ss) false x y) = P := ⟨_, rfl⟩
  have V1 : Hid (validB P1 = true) := by show _ = _; rw [← hP1]; exact HV.out _
  have V2 : Hid (validB P2 = true) := by show _ = _; rw [← hP2]; exact HV.out _
  have CA1 := Lib.hid (CA.out true)
  have CA2 := Lib.hid (CA.out false)
  have CP1 := Lib.hid (fun gb e W h => CP.out gb true e W h)
  have CP2 := Lib.hid (fun gb e W h => CP.out gb false e W h)
  rw [hP1] at CA1 CP1 HS
  rw [hP2] at CA2 CP2 HS
  obtain ⟨R, hR⟩ : ∃ R, simN (pixI ss) x y e8 = R := ⟨_, rfl⟩
  rw [hR] at HS ⊢
  clear hp hP1 hP2 CA CP HV hR hx hy
  go_enter Tryd.func55, Tryd.ntmps55
  go_wp2_with fail
  refine (CA1.out _ HPA.out).mono ?_
  rintro e w1 ⟨g1, cap1, rfl, ho1, hb1⟩
  have B1 : Hid (Below w.heap.size w (w1.alloc (.cells #[.slice (some ⟨g1, 0, none⟩) P1.length cap1] 29))) := hb1.alloc hb1.size _
  have A1 : Hid (PicAt (w1.alloc (.cells #[.slice (some ⟨g1, 0, none⟩) P1.length cap1] 29)) w1.heap.size 0 P1) := ⟨V1.out, _, by rw [World.cell?_alloc_mark]; rfl, (OwnP.sl ho1).below (Joins.below_alloc1 _ _)⟩
  obtain ⟨W2, hW2⟩ : ∃ W2, w1.alloc (.cells #[.slice (some ⟨g1, 0, none⟩) P1.length cap1] 29) = W2 := ⟨_, rfl⟩
  have HW2 := Lib.hid hW2
  rw [hW2] at B1 A1
  clear ho1 hb1 hW2
  go_wp2_with fail
  rw [HW2.out]
  refine (CA2.out _ (HPA.out.below B1.out)).mono ?_
  rintro e w3 ⟨g2, cap2, rfl, ho2, hb2⟩
  have B3 : Hid (Below w.heap.size w (w3.alloc (.cells #[.slice (some ⟨g2, 0, none⟩) P2.length cap2] 29))) := (B1.out.trans (hb2.mono B1.out.size)).alloc (Nat.le_trans B1.out.size hb2.size) _
  have A3 : Hid (PicAt (w3.alloc (.cells #[.slice (some ⟨g2, 0, none⟩) P2.length cap2] 29)) w3.heap.size 0 P2) := ⟨V2.out, _, by rw [World.cell?_alloc_mark]; rfl, (OwnP.sl ho2).below (Joins.below_alloc1 _ _)⟩
  have A1b : Hid (PicAt (w3.alloc (.cells #[.slice (some ⟨g2, 0, none⟩) P2.length cap2] 29)) w1.heap.size 0 P1) := (A1.out.below hb2).below (Joins.below_alloc1 _ _)
  clear ho2 hb2 A1 B1
  go_wp2_with fail
  refine (CP1.out _ _ _ A1b.out).mono ?_
  rintro e w4 ⟨rfl, hb4⟩
  have B4 := Lib.hid (B3.out.trans (hb4.mono B3.out.size))
  have A4 := Lib.hid (A3.out.below hb4)
  obtain ⟨n1, hn1⟩ : ∃ n, partsN P1 e8 = n := ⟨_, rfl⟩
  rw [hn1] at HS ⊢
  clear hb4 hn1 A3 A1b B3
  by_cases h1 : n1 = 1
  · subst h1
    have k1 : (((1 : Nat) : Int) == 1) = true := rfl
    go_wp2_with fail
    refine (CP2.out _ _ _ A4.out).mono ?_
    rintro e w5 ⟨rfl, hb5⟩
    have B5 := Lib.hid (B4.out.trans (hb5.mono B4.out.size))
    obtain ⟨n2, hn2⟩ : ∃ n, partsN P2 (!e8) = n := ⟨_, rfl⟩
    rw [hn2] at HS ⊢
    clear hb5 hn2
    by_cases h2 : n2 = 1
    · subst h2
      have hR : Hid (R = true) := HS.out
      clear HS
      go_wp2
      go_ret
      exact ⟨ret_bool (a := true) hR.out.symm, B5.out⟩
    · have k2 : ((n2 : Int) == 1) = false := by simp; omega
      have hR : Hid (R = false) := by show _ = _; rw [HS.out]; simp [h2]
      clear HS
      go_wp2
      go_ret
      exact ⟨ret_bool (a := false) hR.out.symm, B5.out⟩
  · have k1 : ((n1 : Int) == 1) = false := by simp; omega
    have hR : Hid (R = false) := by show _ = _; rw [HS.out]; simp [h1]
    clear HS
    go_wp2
    go_ret
    exact ⟨ret_bool (a := false) hR.out.symm, B4.out⟩
end Go.Proofs.YtakaglbbcaplhaaDoor
