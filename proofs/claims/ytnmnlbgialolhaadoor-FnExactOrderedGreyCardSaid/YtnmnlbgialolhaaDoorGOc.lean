/- Contracts of single functions, and plain lemmas, on which the exact laws of this seat rest; each holds under the conditions that it states. -/
import Derived.Test.YtnmnlbgialolhaaDoorGW
import Derived.Test.YtnmnlbgialolhaaDoorGP
import Derived.Test.YtnmnlbgialolhaaDoorMo
import Derived.Test.YtnmnlbgialolhaaDoorS5
import Derived.Test.YtnmnlbgialolhaaDoorI2
import Derived.Test.YtnmnlbgialolhaaDoorPb
namespace Go.Proofs.YtnmnlbgialolhaaDoor
set_option linter.unusedVariables false
set_option linter.unusedSimpArgs false
open Go.RowKit Go.Shelf
attribute [local go_sem] Oper.semAt_some

/-! ### numbers by a rule, spot by spot -/
/-- row y when some spots are done -/
def chF (F : Nat → Nat → Int) (a : Nat) {P : Int × Int → Prop} (pre : List { q : Int × Int // P q }) (y : Nat) : List Int :=
  (List.range a).map fun (x : Nat) => if ((x : Int), (y : Int)) ∈ pre.map (·.1) then F y x else 0
/-- row y when all are -/
def rwF (F : Nat → Nat → Int) (a : Nat) (y : Nat) : List Int := (List.range a).map fun x => F y x
theorem rwF_len (F : Nat → Nat → Int) (a y : Nat) : (rwF F a y).length = a := by simp [rwF]
theorem chF_len (F : Nat → Nat → Int) (a : Nat) {P : Int × Int → Prop} (pre : List { q : Int × Int // P q }) (y : Nat) : (chF F a pre y).length = a := by simp [chF]
theorem chF_nil (F : Nat → Nat → Int) (a : Nat) {P : Int × Int → Prop} (y : Nat) : chF F a ([] : List { q : Int × Int // P q }) y = zerosN a := by
  apply List.ext_getElem?
  intro i
  unfold chF zerosN
  by_cases h : i < a
  · simp [h]
  · simp [h]
theorem memF_snoc2 {P : Int × Int → Prop} (pre : List { q : Int × Int // P q }) (xe : { q : Int × Int // P q }) (p : Int × Int) (h : p ≠ xe.1) : (p ∈ (pre ++ [xe]).map (·.1)) = (p ∈ pre.map (·.1)) := by
  rw [List.map_append, List.mem_append]
  refine propext ⟨fun h2 => ?_, Or.inl⟩
  rcases h2 with h2 | h2
  · exact h2
  · exact absurd (List.mem_singleton.1 h2) h
theorem chF_other (F : Nat → Nat → Int) (a : Nat) {P : Int × Int → Prop} (pre : List { q : Int × Int // P q }) (xe : { q : Int × Int // P q }) (y y' : Nat) (hy : xe.1.2 = y) (hne : y' ≠ y) : chF F a (pre ++ [xe]) y' = chF F a pre y' := by
  unfold chF
  refine List.map_congr_left fun x hx => ?_
  have : ((x : Int), (y' : Int)) ≠ xe.1 := fun e => by
    have e2 := congrArg Prod.snd e
    rw [hy] at e2
    simp at e2
    omega
  simp only [memF_snoc2 pre xe _ this]
theorem chF_set (F : Nat → Nat → Int) (a : Nat) {P : Int × Int → Prop} (pre : List { q : Int × Int // P q }) (xe : { q : Int × Int // P q }) (x y : Nat) (hx : xe.1.1 = x) (hy : xe.1.2 = y) (hxa : x < a) : (numsV (chF F a pre y)).set x (.int .i64 (F y x)) = numsV (chF F a (pre ++ [xe]) y) := by
  apply List.ext_getElem?
  intro i
  rw [List.getElem?_set]
  unfold numsV chF
  simp only [List.getElem?_map, List.length_map, List.length_range]
  have hxe : xe.1 = ((x : Int), (y : Int)) := Prod.ext hx hy
  by_cases e : x = i
  · subst e
    rw [if_pos rfl, if_pos hxa, List.getElem?_range hxa]
    simp [hxe]
  · rw [if_neg e]
    by_cases hi : i < a
    · rw [List.getElem?_range hi]
      have : ((i : Int), (y : Int)) ≠ xe.1 := fun e2 => by
        rw [hxe] at e2
        have e3 := congrArg Prod.fst e2
        simp at e3
        omega
      simp only [Option.map_some]
      simp only [memF_snoc2 pre xe _ this]
    · rw [List.getElem?_eq_none (by simp; omega)]
      rfl
theorem chF_full (F : Nat → Nat → Int) (a b : Nat) (ha : 0 < a) (hb : 0 < b) (y : Nat) (hy : y < b) : chF F a ((gGrid a b ha hb).list (b * a)) y = rwF F a y := by
  unfold chF rwF
  refine List.map_congr_left fun x hx => ?_
  have hx2 := List.mem_range.1 hx
  have hlt : y * a + x < b * a := by
    have : (y + 1) * a ≤ b * a := Nat.mul_le_mul hy (Nat.le_refl _)
    rw [Nat.add_mul, Nat.one_mul] at this
    omega
  rw [if_pos]
  refine List.mem_map.2 ⟨(gGrid a b ha hb).at (y * a + x), ?_, ?_⟩
  · unfold Grid.list
    exact List.mem_map.2 ⟨_, List.mem_range.2 hlt, rfl⟩
  · have d1 : (y * a + x) % a = x := by rw [Nat.mul_comm, Nat.mul_add_mod, Nat.mod_eq_of_lt hx2]
    have d2 : (y * a + x) / a = y := by
      rw [Nat.mul_comm, Nat.mul_add_div (by omega), Nat.div_eq_of_lt hx2, Nat.add_zero]
    refine Prod.ext ?_ ?_
    · show (((y * a + x) % a : Nat) : Int) - ((0 : Nat) : Int) = x
      rw [d1, Int.natCast_zero, Int.sub_zero]
    · show (((y * a + x) / a % b : Nat) : Int) - ((0 : Nat) : Int) = y
      rw [d2, Nat.mod_eq_of_lt hy, Int.natCast_zero, Int.sub_zero]
theorem ownRF_from {β : Type} (lo hi B n : Nat) (v : Value) (us : Nat → Value) (f : β → Nat → List Int) (hhi : hi ≤ B) : OwnFrom B (fun (s : β) W => OwnR W lo hi v us n (f s) ∧ hi ≤ W.heap.size) := fun s W W' row h hg hr =>
  ⟨h.1.keep (fun k h1 h2 => hg.block k (Nat.lt_of_lt_of_le h2 h.2) (fun e => by have := (hr k e.symm).1; omega)), Nat.le_trans h.2 hg.size⟩

/-- the number of a colour -/
def gyB (b : Bool) : Int := if b = true then 0 else 99
theorem gyB_rng (b : Bool) : 0 ≤ gyB b ∧ gyB b ≤ 99 := by cases b <;> decide
theorem greyOf_any (b : Bool) (w : World) : Calls Tryd.prog 96 #[.bool b] w (fun e w' => e = .returned (.int .i64 (gyB b)) ∧ w = w') := by
  cases b with
  | true =>
    go_enter Tryd.func96, Tryd.ntmps96
    go_wp2
    go_ret
    exact ⟨rfl, rfl⟩
  | false =>
    go_enter Tryd.func96, Tryd.ntmps96
    go_wp2
    go_ret
    exact ⟨rfl, rfl⟩
end Go.Proofs.YtnmnlbgialolhaaDoor

/- Contracts of single functions, and plain lemmas, on which the exact laws of this seat rest; each holds under the conditions that it states. -/
namespace Go.Proofs.YtnmnlbgialolhaaDoor
set_option linter.unusedVariables false
set_option linter.unusedSimpArgs false
open Go.RowKit
attribute [local go_sem] Oper.semAt_some

theorem OwnR.setB {W : World} {lo hi n : Nat} {v : Value} {us : Nat → Value} {f : Nat → List Int} (h : OwnR W lo hi v us n f) {a : Nat} {c : Array Value} {t : TypeId} (hc : W.heap[a]? = some (.cells c t (0, 0))) (h1 : t ≠ 88) (h2 : t ≠ 2) (x : Value) : OwnR (W.setCell ⟨a, 0, none⟩ x) lo hi v us n f :=
  ⟨own_set h.row hc h1, fun i hi => by
    have := h.each i hi
    unfold OwnN at this ⊢
    exact own_set this hc h2, h.up, h.top, h.apart⟩
theorem rwF_snoc (F : Nat → Nat → Int) (x y : Nat) : numsV (rwF F (x + 1) y) = numsV (rwF F x y) ++ [.int .i64 (F y x)] := by
  unfold rwF numsV
  rw [List.range_succ, List.map_append, List.map_append]
  rfl
/-- the grey picture of a picture -/
def gyF (ss : List ByteArray) (y x : Nat) : Int := gyB (pixI ss (x : Int) (y : Int))
def gyGs (ss : List ByteArray) : List (List Int) := (List.range ss.length).map fun y => rwF (gyF ss) (row0 ss).size y
theorem gyGs_len (ss : List ByteArray) : (gyGs ss).length = ss.length := by simp [gyGs]
theorem gyGs_row (ss : List ByteArray) (y : Nat) (h : y < ss.length) : rowF (gyGs ss) y = rwF (gyF ss) (row0 ss).size y := by
  unfold rowF gyGs
  rw [List.getD_eq_getElem?_getD, List.getElem?_map, List.getElem?_range h]
  rfl
def gyP (ss : List ByteArray) : List (List Int) := if validB ss then gyGs ss else []
theorem gyP_bnd (ss : List ByteArray) : (gyP ss).length + totG (gyP ss) ≤ 1000 := by
  unfold gyP
  cases h : validB ss with
  | false => simp [totG, offR]
  | true =>
    have V := vp_of h
    have h1 := V.w16
    have h2 := V.n16
    refine small_grey (by rw [if_pos rfl, gyGs_len]; exact h2) (fun i hi => ?_)
    rw [if_pos rfl, gyGs_len] at hi
    rw [if_pos rfl, gyGs_row ss i hi, rwF_len]
    exact h1

set_option maxHeartbeats 4000000 in
set_option maxRecDepth 100000 in
theorem l10Grey_any (pb : Nat) (ss : List ByteArray) (w : World) (hpa : PicAt w pb 0 ss) :
    Calls Tryd.prog 51 #[.pointer (some ⟨pb, 0, none⟩)] w (TookGy w ss.length (rwF (gyF ss) (row0 ss).size)) := by
  obtain ⟨i0, hi, hz0, hz1, hz2⟩ := info_parts infoSl
  obtain ⟨j0, hj, hy0, hy1, hy2⟩ := info_parts infoN64
  obtain ⟨b0, off0, cap0, hcc, hst, V⟩ := hpa.open'
  have hw1 := V.w1
  have hw16 := V.w16
  have hn1 := V.n1
  have hn16 := V.n16
  have CW : Hid (∀ W, PicAt W pb 0 ss → Calls Tryd.prog 61 #[.pointer (some ⟨pb, 0, none⟩)] W fun e w' => e = .returned (.int .i64 (row0 ss).size) ∧ W = w') := fun W h => l01Width_any _ _ ss W h
  have CH : Hid (∀ W, PicAt W pb 0 ss → Calls Tryd.prog 62 #[.pointer (some ⟨pb, 0, none⟩)] W fun e w' => e = .returned (.int .i64 ss.length) ∧ W = w') := fun W h => l01Height_any _ _ ss W h
  have CB : Hid (∀ (x y : Nat) W, PicAt W pb 0 ss → Calls Tryd.prog 86 #[.pointer (some ⟨pb, 0, none⟩), .int .i64 x, .int .i64 y] W fun e w' => e = .returned (.bool (pixI ss x y)) ∧ W = w') := fun x y W h => l01Black_any pb 0 ss x y W h
  have HG : Hid (∀ y x : Nat, gyF ss y x = gyB (pixI ss (x : Int) (y : Int))) := fun y x => rfl
  obtain ⟨F, hF⟩ : ∃ F, gyF ss = F := ⟨_, rfl⟩
  obtain ⟨p, hp⟩ : ∃ p, pixI ss = p := ⟨_, rfl⟩
  rw [hF] at HG ⊢
  rw [hp] at HG CB
  obtain ⟨wd, hwd⟩ : ∃ k, (row0 ss).size = k := ⟨_, rfl⟩
  obtain ⟨n, hnn⟩ : ∃ k, ss.length = k := ⟨_, rfl⟩
  rw [hwd] at CW hw1 hw16 ⊢
  rw [hnn] at CH hn1 hn16 ⊢
  have HPA : Hid (∀ W, Below w.heap.size w W → PicAt W pb 0 ss) := fun W hb => hpa.below hb
  have hlp : pb < w.heap.size := blk_lt hcc
  unfold TookGy
  clear hcc hst V hpa hF hp hwd hnn
  go_enter Tryd.func51, Tryd.ntmps51
  go_wp2
  go_loopw [4] (fun yv wr => ∃ (y : Nat) (ao : Option Addr) (m c : Nat) (us : Nat → Value), y ≤ n ∧ yv = .int .i64 y ∧ Hid (wr.heap[w.heap.size + 1 + 1]? = some (.cells #[.slice ao m c] 35 (0, 0))) ∧ Hid (wr.heap[w.heap.size]? = some (.cells #[.slice none 0 0] 35 (0, 0))) ∧ Hid (OwnR wr (w.heap.size + 1) wr.heap.size (.slice ao m c) us y (rwF F wd)) ∧ Hid (Below w.heap.size w wr)) (fun yv _ => n - (intOf yv).toNat)
  case atStart =>
    refine ⟨0, some ⟨w.heap.size + 1, 0, none⟩, 0, 0, fun _ => .slice none 0 0, Nat.zero_le _, rfl, ?_, ?_, ?_, Lib.hid (Joins.below_alloc3 _ _ _ _)⟩
    · have := heap_alloc_last ((w.alloc (.cells #[.slice none 0 0] 35)).alloc (.cells #[] 88)) (.cells #[.slice (some ⟨w.heap.size + 1, 0, none⟩) 0 0] 35)
      simp only [World.size_alloc] at this
      exact Lib.hid this
    · refine Lib.hid ?_
      rw [Below.heap_alloc _ _ _ (by simp; omega), Below.heap_alloc _ _ _ (by simp)]
      exact heap_alloc_last _ _
    · refine Lib.hid ⟨?_, fun i h => absurd h (Nat.not_lt_zero i), fun i h => absurd h (Nat.not_lt_zero i), fun k hk => ?_, fun i j h => absurd h (Nat.not_lt_zero i)⟩
      · have := World.ownsRow_lit (base := w.heap.size + 1) (e := 88) (size := 1) (w.alloc (.cells #[.slice none 0 0] 35)) #[] 0 (by simp) (by unfold maxLen; omega) rfl
        simp only [World.size_alloc] at this
        exact this.alloc _
      · have : w.heap.size + 1 = k := by simpa [Value.ownBlock] using hk
        simp
        omega
  case round =>
    obtain ⟨y, ao, m, c, us, hy, rfl, HP, HH, HO, HB⟩ := hrel
    have A0 := Lib.hid (HPA.out _ HB.out)
    by_cases hlt : y < n
    · have kyn : (y : Int) < (n : Int) := by omega
      go_wp2_with fail
      refine (CH.out _ A0.out).mono ?_
      rintro e w' ⟨rfl, rfl⟩
      obtain ⟨w0, hw0⟩ : ∃ w0, wr = w0 := ⟨_, rfl⟩
      rw [hw0] at HP HH HO HB A0 ⊢
      clear hw0
      have hsB := HB.out.size
      have hb01 := Joins.below_alloc1 w0 (.cells #[] 2)
      have hrow0 := World.ownsRow_lit (base := w0.heap.size) (e := 2) (size := 1) w0 #[] 0 (Nat.le_refl _) (by unfold maxLen; omega) rfl
      have HRow0 := Lib.hid hrow0
      have HB01 := Lib.hid hb01
      clear hrow0 hb01
      go_wp2
      go_loopw [5, 6] (fun v xv wr => ∃ x : Nat, x ≤ wd ∧ xv = .int .i64 x ∧ Hid (wr.ownsRow w0.heap.size 2 1 v x (numsV (rwF F x y))) ∧ Hid (Below w0.heap.size w0 wr)) (fun _ xv _ => wd - (intOf xv).toNat)
      case atStart => exact ⟨0, Nat.zero_le _, rfl, Lib.hid HRow0.out, HB01⟩
      case round =>
        clear HRow0 HB01 A0
        obtain ⟨x, hx, rfl, HRo, HBo⟩ := hrel
        have A1 := Lib.hid (HPA.out _ (HB.out.trans (HBo.out.mono hsB)))
        have hs1 := HBo.out.size
        by_cases hlt2 : x < wd
        · have kxw : (x : Int) < (wd : Int) := by omega
          have hsn := rwF_snoc F x y
          have hg := HG.out y x
          have cb := CB.out x y
          obtain ⟨bt, hbt⟩ : ∃ t, p (x : Int) (y : Int) = t := ⟨_, rfl⟩
          rw [hbt] at hg cb
          rw [hg] at hsn
          have CBt := Lib.hid cb
          have HO' := Lib.hid HRo.out
          cases bt with
          | true =>
            have HSN : Hid (numsV (rwF F (x + 1) y) = numsV (rwF F x y) ++ [.int .i64 0]) := hsn
            clear hsn hg hbt cb
            go_wp2_with fail
            refine (CW.out _ A1.out).mono ?_
            rintro e w' ⟨rfl, rfl⟩
            go_wp2_with fail
            refine (CBt.out _ A1.out).mono ?_
            rintro e w' ⟨rfl, rfl⟩
            go_wp2_with (at_builtin; refine wpList_append_own _ rfl _ _ 88 rfl w0.heap.size 2 j0 (.int .i64 0) 1 8 Tryd.underlying88 hj hy0 hy1 hy2 rfl (by decide) _ _ _ rfl (HO'.out.alloc _) ⟨wr.heap.size, 0, none⟩ 1 1 [.int .i64 0] rfl rfl (cell_one_new _ _ _) (by intro u hu; simp at hu; subst hu; rfl) (by unfold maxLen; omega) (by omega) (by simp; omega) ?_)
            intro v' w2 hown' hgr _
            have o1 := HO'.out.alloc (.cells #[.int .i64 0] 2)
            have B2 : Hid (Below w0.heap.size w0 w2) := (HBo.out.alloc hs1 _).grown hgr (by simp; omega) (fun k hk => (o1.lt k hk).1)
            have O2 : Hid (w2.ownsRow w0.heap.size 2 1 v' (x + 1) (numsV (rwF F (x + 1) y))) := by
              show World.ownsRow _ _ _ _ _ _ _
              rw [HSN.out]
              exact hown'
            clear hown' hgr o1
            go_wp2
            go_roundw
            case rel => exact ⟨x + 1, by omega, by go_num, O2.out, B2.out⟩
            case measure => simp [intOf]; omega
          | false =>
            have HSN : Hid (numsV (rwF F (x + 1) y) = numsV (rwF F x y) ++ [.int .i64 99]) := hsn
            clear hsn hg hbt cb
            go_wp2_with fail
            refine (CW.out _ A1.out).mono ?_
            rintro e w' ⟨rfl, rfl⟩
            go_wp2_with fail
            refine (CBt.out _ A1.out).mono ?_
            rintro e w' ⟨rfl, rfl⟩
            go_wp2_with (at_builtin; refine wpList_append_own _ rfl _ _ 88 rfl w0.heap.size 2 j0 (.int .i64 0) 1 8 Tryd.underlying88 hj hy0 hy1 hy2 rfl (by decide) _ _ _ rfl (HO'.out.alloc _) ⟨wr.heap.size, 0, none⟩ 1 1 [.int .i64 99] rfl rfl (cell_one_new _ _ _) (by intro u hu; simp at hu; subst hu; rfl) (by unfold maxLen; omega) (by omega) (by simp; omega) ?_)
            intro v' w2 hown' hgr _
            have o1 := HO'.out.alloc (.cells #[.int .i64 99] 2)
            have B2 : Hid (Below w0.heap.size w0 w2) := (HBo.out.alloc hs1 _).grown hgr (by simp; omega) (fun k hk => (o1.lt k hk).1)
            have O2 : Hid (w2.ownsRow w0.heap.size 2 1 v' (x + 1) (numsV (rwF F (x + 1) y))) := by
              show World.ownsRow _ _ _ _ _ _ _
              rw [HSN.out]
              exact hown'
            clear hown' hgr o1
            go_wp2
            go_roundw
            case rel => exact ⟨x + 1, by omega, by go_num, O2.out, B2.out⟩
            case measure => simp [intOf]; omega
        · obtain rfl : x = wd := by omega
          go_wp2_with fail
          refine (CW.out _ A1.out).mono ?_
          rintro e w' ⟨rfl, rfl⟩
          have hbw : Below w.heap.size w wr := HB.out.trans (HBo.out.mono hsB)
          have l1 := (Array.getElem?_eq_some_iff.1 HP.out).1
          have l2 := (Array.getElem?_eq_some_iff.1 HH.out).1
          have hP1 := (HBo.out.block _ l1).trans HP.out
          have hH1 := (HBo.out.block _ l2).trans HH.out
          obtain ⟨g, cg, hv⟩ := Joins.ownsRow_form HRo.out (by omega)
          subst hv
          have hu : OwnN wr w0.heap.size (.slice (some ⟨g, 0, none⟩) x cg) (rwF F x y) := by
            unfold OwnN
            rw [rwF_len]
            exact HRo.out
          have hcP : wr.cell? ⟨w.heap.size + 1 + 1, 0, none⟩ = some (.slice ao m c) := Joins.cell_of_block hP1 0
          have hrow2 := World.ownsRow.alloc (own_below HO.out.row HBo.out) (.cells #[.slice (some ⟨g, 0, none⟩) x cg] 88)
          have hb2 : Below w.heap.size w (wr.alloc (.cells #[.slice (some ⟨g, 0, none⟩) x cg] 88)) := hbw.alloc hbw.size _
          have hP2 : (wr.alloc (.cells #[.slice (some ⟨g, 0, none⟩) x cg] 88)).heap[w.heap.size + 1 + 1]? = some (.cells #[.slice ao m c] 35 (0, 0)) := (Below.heap_alloc _ _ _ (Array.getElem?_eq_some_iff.1 hP1).1).trans hP1
          have hH2 : (wr.alloc (.cells #[.slice (some ⟨g, 0, none⟩) x cg] 88)).heap[w.heap.size]? = some (.cells #[.slice none 0 0] 35 (0, 0)) := (Below.heap_alloc _ _ _ (Array.getElem?_eq_some_iff.1 hH1).1).trans hH1
          have HR2 := Lib.hid hrow2
          have HU2 := Lib.hid hu
          have HBo2 := Lib.hid HBo.out
          have HP2 := Lib.hid hP2
          have HH2 := Lib.hid hH2
          have HB2 := Lib.hid hb2
          have hss : w.heap.size ≤ wr.heap.size := hbw.size
          clear hbw hP1 hH1 hu hrow2 hb2 hP2 hH2 HRo A1
          go_wp2_with (at_builtin; refine wpList_append_own _ rfl _ _ 33 rfl (w.heap.size + 1) 88 i0 (.slice none 0 0) 1 24 Tryd.underlying33 hi hz0 hz1 hz2 rfl (by decide) _ _ _ rfl HR2.out ⟨wr.heap.size, 0, none⟩ 1 1 [.slice (some ⟨g, 0, none⟩) x cg] rfl rfl (cell_one_new _ _ _) (by intro u hu; simp at hu; subst hu; rfl) (by unfold maxLen; omega) (by omega) (by simp; omega) ?_)
          intro v' w5 hown' hgr _
          have hP5 := var_far HP2.out HR2.out (by decide) hgr
          have hH5 := var_far HH2.out HR2.out (by decide) hgr
          have o5 := OwnR.snoc2 HO.out (Nat.le_trans (by omega) (Nat.le_refl _)) HBo2.out HU2.out _ hown' hgr
          have b5 : Below w.heap.size w w5 := HB2.out.grown hgr (by simp; omega) (fun k hk => by have := (HR2.out.lt k hk).1; omega)
          obtain ⟨g', c', rfl⟩ := Joins.ownsRow_form hown' (by omega)
          have hf5 : w5.frozen? ⟨w.heap.size + 1 + 1, 0, none⟩ = false := free_of_one hP5
          have hc5 : w5.cell? ⟨w.heap.size + 1 + 1, 0, none⟩ = some (.slice ao m c) := Joins.cell_of_block hP5 0
          have O5 := Lib.hid o5
          have P5 := Lib.hid hP5
          have H5 := Lib.hid hH5
          have B5 := Lib.hid b5
          clear hown' hgr hP5 hH5 o5 b5
          go_wp2
          go_roundw
          case rel => exact ⟨y + 1, _, _, _, _, hlt, by go_num, Lib.hid (one_setCell P5.out), Lib.hid ((Below.heap_setCell _ _ _ _ (by simp; omega)).trans H5.out), Lib.hid (((O5.out.setB P5.out (by decide) (by decide) _).mono (Nat.le_refl _) (by simp)).congr fun j hj => by
            by_cases e : j = y
            · subst e; simp
            · simp [e]), Lib.hid (B5.out.setCell (by simp; omega) _)⟩
          case measure => simp [intOf]; omega
    · obtain rfl : y = n := by omega
      go_wp2_with fail
      refine (CH.out _ A0.out).mono ?_
      rintro e w' ⟨rfl, rfl⟩
      have hPc : wr.cell? ⟨w.heap.size + 1 + 1, 0, none⟩ = some (.slice ao m c) := Joins.cell_of_block HP.out 0
      have hHc : wr.cell? ⟨w.heap.size, 0, none⟩ = some (.slice none 0 0) := Joins.cell_of_block HH.out 0
      have hfr : wr.frozen? ⟨w.heap.size, 0, none⟩ = false := free_of_one HH.out
      obtain ⟨g', c', hf⟩ := Joins.ownsRow_form HO.out.row (by omega)
      injection hf with h1 h2 h3
      subst h1 h2 h3
      go_wp2
      refine bodyPost_ret (v := .agg #[.slice (some ⟨g', 0, none⟩) m c]) (by simp [results, Tryd.results51, go_sem, cell_of_one (one_setCell HH.out)]) rfl ⟨g', c, rfl, ⟨us, (HO.out.setB HH.out (by decide) (by decide) _).mono (by omega) (by simp)⟩, HB.out.setCell (by simp) _⟩

set_option maxHeartbeats 4000000 in
set_option maxRecDepth 100000 in
theorem spec_GreyOf (u : Value) (ss : List ByteArray) (w : World) (hN : ss.length ≤ maxLen) (hz : ∀ s ∈ ss, s.size ≤ maxLen) (hu : Sl w u ss) :
    Calls Tryd.prog 19 #[.agg #[u]] w (SaysGrey (gyP ss) (validB ss) w) := by
  obtain ⟨W0, hW0⟩ : ∃ W0, (w.alloc (.cells #[u] 26)).alloc (.cells #[.slice none 0 0] 35) = W0 := ⟨_, rfl⟩
  have hs0 : W0.heap.size = w.heap.size + 1 + 1 := by rw [← hW0]; simp
  have hb0 : Below w.heap.size w W0 := by rw [← hW0]; exact Joins.below_alloc2 _ _ _
  have p0 : W0.heap[w.heap.size]? = some (.cells #[u] 26 (0, 0)) := by
    rw [← hW0, Below.heap_alloc _ _ _ (by first | (simp; done) | (simp; omega))]; exact heap_alloc_last w _
  have p1 : W0.heap[w.heap.size + 1]? = some (.cells #[.slice none 0 0] 35 (0, 0)) := by
    rw [← hW0]
    exact heap_alloc2_new _ _ _
  have HW := Lib.hid hW0
  have HB0 := Lib.hid hb0
  have KR : Hid (∀ W, Below W0.heap.size W0 W → W.heap[w.heap.size + 1]? = some (.cells #[.slice none 0 0] 35 (0, 0))) := fun W hb => (hb.block _ (by omega)).trans p1
  have CL := Lib.hid (l01Is_any w.heap.size 0 u ss W0 (cell_of_one p0) (hu.below hb0) hN hz)
  cases hok : validB ss with
  | false =>
    have e1 : Hid (gyP ss = []) := by show _ = _; unfold gyP; rw [hok]; rfl
    rw [hok] at CL
    rw [e1.out]
    clear hok e1 hu hN hz p0 p1 hW0 hb0 hs0
    go_enter Tryd.func19, Tryd.ntmps19
    go_wp2_with fail
    rw [HW.out]
    refine CL.out.mono ?_
    rintro e w1 ⟨rfl, hb1⟩
    have hp1 := KR.out _ hb1
    have hfr : w1.frozen? ⟨w.heap.size + 1, 0, none⟩ = false := free_of_one hp1
    have hc2 : w1.cell? ⟨w.heap.size + 1, 0, none⟩ = some (.slice none 0 0) := cell_of_one hp1
    have B1 : Hid (Below w.heap.size w w1) := HB0.out.trans (hb1.mono HB0.out.size)
    have P1 := Lib.hid hp1
    clear hb1 hp1
    go_wp2_with fail
    refine bodyPost_ret (v := .tuple #[.agg #[.slice none 0 0], .bool false]) (by simp [results, Tryd.results19, go_sem, cell_of_one (one_setCell P1.out)]) rfl ⟨_, _, _, rfl, ⟨fun _ => .slice none 0 0, OwnR.nil _ _ _ _ _⟩, B1.out.setCell (by show w.heap.size ≤ w.heap.size + 1; omega) _⟩
  | true =>
    have e1 : Hid (gyP ss = gyGs ss) := by show _ = _; unfold gyP; rw [hok]; rfl
    rw [hok] at CL
    have CR : Hid (∀ W, Below W0.heap.size W0 W → Calls Tryd.prog 51 #[.pointer (some ⟨w.heap.size, 0, none⟩)] W (TookGy W ss.length (rwF (gyF ss) (row0 ss).size))) := fun W hb =>
      l10Grey_any w.heap.size ss W ⟨hok, u, cell_kept hb (cell_of_one p0), (hu.below hb0).below hb⟩
    rw [e1.out]
    have HGl := Lib.hid (gyGs_len ss)
    have HGr := Lib.hid (fun y h => gyGs_row ss y h)
    obtain ⟨n, hn⟩ : ∃ n, ss.length = n := ⟨_, rfl⟩
    obtain ⟨G, hG⟩ : ∃ G, gyGs ss = G := ⟨_, rfl⟩
    rw [hG] at HGl HGr ⊢
    rw [hn] at HGl HGr CR
    unfold TookGy at CR
    clear hok e1 hu hN hz p0 p1 hW0 hb0 hn hG
    go_enter Tryd.func19, Tryd.ntmps19
    go_wp2_with fail
    rw [HW.out]
    refine CL.out.mono ?_
    rintro e w1 ⟨rfl, hb1⟩
    have HB1 := Lib.hid hb1
    clear hb1
    go_wp2_with fail
    refine (CR.out _ HB1.out).mono ?_
    rintro e w5 ⟨g4, cap4, rfl, ⟨us, hown4⟩, hb4⟩
    have hb5 := HB1.out.trans (hb4.mono HB1.out.size)
    have hp2 := KR.out _ hb5
    have hfr : w5.frozen? ⟨w.heap.size + 1, 0, none⟩ = false := free_of_one hp2
    have hc2 : w5.cell? ⟨w.heap.size + 1, 0, none⟩ = some (.slice none 0 0) := cell_of_one hp2
    have hs4 : w.heap.size ≤ w1.heap.size := Nat.le_trans HB0.out.size HB1.out.size
    have O2 : Hid (OwnG (w5.setCell ⟨w.heap.size + 1, 0, none⟩ (.slice (some ⟨g4, 0, none⟩) n cap4)) w.heap.size (w5.setCell ⟨w.heap.size + 1, 0, none⟩ (.slice (some ⟨g4, 0, none⟩) n cap4)).heap.size (.slice (some ⟨g4, 0, none⟩) n cap4) G) := by
      refine ⟨us, ?_⟩
      rw [HGl.out]
      exact ((hown4.setB hp2 (by decide) (by decide) _).mono hs4 (by simp)).congr fun i hi => (HGr.out i hi).symm
    have P5 := Lib.hid hp2
    have B5 := Lib.hid (HB0.out.trans (hb5.mono HB0.out.size))
    clear hown4 hp2 hb4 hb5
    go_wp2_with fail
    refine bodyPost_ret (v := .tuple #[.agg #[.slice (some ⟨g4, 0, none⟩) n cap4], .bool true]) (by simp [results, Tryd.results19, go_sem, cell_of_one (one_setCell P5.out)]) rfl ⟨_, _, _, rfl, O2.out, B5.out.setCell (by show w.heap.size ≤ w.heap.size + 1; omega) _⟩
end Go.Proofs.YtnmnlbgialolhaaDoor
