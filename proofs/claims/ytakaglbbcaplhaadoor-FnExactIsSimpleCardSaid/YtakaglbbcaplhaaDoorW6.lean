/- Contracts of single functions, and plain lemmas, on which the exact laws of this seat rest; each holds under the conditions that it states. -/
import Derived.Test.YtakaglbbcaplhaaDoorPb
import Derived.Test.YtakaglbbcaplhaaDoorW4
import Derived.Test.YtakaglbbcaplhaaDoorSp
import Derived.Test.YtakaglbbcaplhaaDoorI1
namespace Go.Proofs.YtakaglbbcaplhaaDoor
set_option linter.unusedVariables false
set_option linter.unusedSimpArgs false
open Go.RowKit

/-! ### a picture that is made of a function -/
theorem rowOf_size (f : Nat → Bool) (n : Nat) : (rowOf f n).size = n := by simp [rowOf, ByteArray.size, mkRow]
theorem rowOf_get (f : Nat → Bool) (n x : Nat) (h : x < (rowOf f n).size) : (rowOf f n)[x]'h = if f x = true then 35 else 46 := by
  have hx : x < n := by rwa [rowOf_size] at h
  have : (rowOf f n)[x]'h = (mkRow f n)[x]'(by rw [mkRow_len]; exact hx) := by
    simp [rowOf, ByteArray.getElem_eq_getElem_data]
  rw [this]
  simp [mkRow]
theorem mkPic_getD (wd h : Nat) (f : Nat → Nat → Bool) {y : Nat} (hy : y < h) : (mkPic wd h f).getD y ByteArray.empty = rowOf (f y) wd := by
  simp [mkPic, List.getD, hy]
theorem mkPic_row0 (wd h : Nat) (f : Nat → Nat → Bool) (hh : 1 ≤ h) : (row0 (mkPic wd h f)).size = wd := by
  show ((mkPic wd h f).getD 0 ByteArray.empty).size = wd
  rw [mkPic_getD wd h f (by omega), rowOf_size]
theorem mkPic_pix (wd h : Nat) (f : Nat → Nat → Bool) {y x : Nat} (hy : y < h) (hx : x < wd) : pixF (mkPic wd h f) y x = f y x := by
  unfold pixF
  rw [mkPic_getD wd h f hy, blackAt_eq _ _ (by rw [rowOf_size]; exact hx), rowOf_get]
  cases f y x <;> rfl
theorem mkPic_valid (wd h : Nat) (f : Nat → Nat → Bool) (hw : 1 ≤ wd ∧ wd ≤ 16) (hh : 1 ≤ h ∧ h ≤ 16) : validB (mkPic wd h f) = true := by
  unfold validB
  simp only [Bool.and_eq_true, decide_eq_true_eq, mkPic_len, mkPic_row0 wd h f hh.1]
  refine ⟨⟨⟨⟨hh.1, hh.2⟩, hw.1⟩, hw.2⟩, ?_⟩
  rw [List.all_eq_true]
  intro s hs
  obtain ⟨y, hy, rfl⟩ := List.mem_iff_getElem.1 hs
  rw [mkPic_len] at hy
  have e : (mkPic wd h f)[y] = rowOf (f y) wd := by simp [mkPic]
  rw [e]
  unfold rowB
  simp only [Bool.and_eq_true, decide_eq_true_eq]
  refine ⟨rowOf_size _ _, ?_⟩
  rw [List.all_eq_true]
  intro c hc
  have hc' : c ∈ mkRow (f y) wd := by simpa [rowOf] using hc
  obtain ⟨x, hx, rfl⟩ := List.mem_iff_getElem.1 hc'
  simp only [mkRow, List.getElem_map, List.getElem_range]
  cases f y x <;> decide
end Go.Proofs.YtakaglbbcaplhaaDoor

/- Contracts of single functions, and plain lemmas, on which the exact laws of this seat rest; each holds under the conditions that it states. -/
namespace Go.Proofs.YtakaglbbcaplhaaDoor
set_option linter.unusedVariables false
set_option linter.unusedSimpArgs false
open Go.RowKit

theorem pixI_inW (ss : List ByteArray) (x y : Int) (h : pixI ss x y = true) : (0 ≤ x ∧ x < ((row0 ss).size : Nat)) ∧ (0 ≤ y ∧ y < (ss.length : Nat)) := by
  unfold pixI insB inB at h
  simp at h
  omega
/-- what a search over a valid picture says -/
theorem reach_pic (pb po : Nat) (ss : List ByteArray) (e8 : Bool) (sv : Value) (xs : List (Int × Int)) (w : World) (hp : PicAt w pb po ss) (hxs : xs.length ≤ 256) (hs : SlS w sv xs) :
    Calls Tryd.prog 166 #[.pointer (some ⟨pb, po, none⟩), sv, .bool e8] w (ReachPic (pixI ss) (stepL e8) xs (row0 ss).size ss.length w) := by
  have V := vp_of hp.ok
  exact l03Reach_any pb po _ _ _ e8 sv xs w ⟨V.w1, V.w16⟩ ⟨V.n1, V.n16⟩ (fun x y h => pixI_inW ss x y h) hxs hs
    (fun W hb => l01Width_any pb po ss W (hp.below hb)) (fun W hb => l01Height_any pb po ss W (hp.below hb)) (fun X Y W hb => l01Black_any pb po ss X Y W (hp.below hb))

set_option maxHeartbeats 2000000 in
set_option maxRecDepth 100000 in
theorem l05Part_any (pb po : Nat) (ss : List ByteArray) (x y : Int) (e8 : Bool) (w : World) (hp : PicAt w pb po ss) :
    Calls Tryd.prog 135 #[.pointer (some ⟨pb, po, none⟩), .agg #[.int .i64 x, .int .i64 y], .bool e8] w (fun e w' => ∃ (g : Nat) (bs : List Bool), e = .returned (.pointer (some ⟨g, 0, none⟩)) ∧ bs.length = (row0 ss).size * ss.length ∧
      (∀ X Y : Nat, X < (row0 ss).size → Y < ss.length → (bs.getD (Y * (row0 ss).size + X) false = true ↔ Reach (pixI ss) (stepL e8) [(x, y)] ((X : Int), (Y : Int)))) ∧
      PicAt w' g 0 (mkPic (row0 ss).size ss.length (fun Y X => bs.getD (Y * (row0 ss).size + X) false)) ∧ Below w.heap.size w w') := by
  have V := vp_of hp.ok
  have hb2 := Joins.below_alloc2 w (.cells #[.int .i64 x, .int .i64 y] 31) (.cells #[.int .i64 x, .int .i64 y] 31)
  have hA := heap_alloc2_new w (.cells #[.int .i64 x, .int .i64 y] 31) (.cells #[.int .i64 x, .int .i64 y] 31)
  have hs : SlS ((w.alloc (.cells #[.int .i64 x, .int .i64 y] 31)).alloc (.cells #[.int .i64 x, .int .i64 y] 31)) (.slice (some ⟨w.heap.size + 1, 0, none⟩) 1 1) [(x, y)] := by
    refine Or.inr ⟨w.heap.size + 1, 1, rfl, by simp, by simp, fun i hi => ?_⟩
    obtain rfl : i = 0 := by simp at hi; omega
    exact ⟨by rw [Joins.cell_of_block hA]; rfl, by rw [Joins.cell_of_block hA]; rfl⟩
  have C := Lib.hid (reach_pic pb po ss e8 _ [(x, y)] _ (hp.below hb2) (by simp) hs)
  have HB2 := Lib.hid hb2
  have HV : Hid (∀ f, validB (mkPic (row0 ss).size ss.length f) = true) := fun f => mkPic_valid _ _ f ⟨V.w1, V.w16⟩ ⟨V.n1, V.n16⟩
  clear hp V hb2 hA hs
  go_enter Tryd.func135, Tryd.ntmps135
  go_wp2_with fail
  refine C.out.mono ?_
  rintro e w2 ⟨bs, hl, hr, g, cap2, rfl, hown, hb⟩
  obtain ⟨pic, hpic⟩ : ∃ q, mkPic (row0 ss).size ss.length (fun Y X => bs.getD (Y * (row0 ss).size + X) false) = q := ⟨_, rfl⟩
  have hv := HV.out (fun Y X => bs.getD (Y * (row0 ss).size + X) false)
  rw [hpic] at hown hv ⊢
  have HPic := Lib.hid hpic
  have HL := Lib.hid hl
  have HR := Lib.hid hr
  have HBB := Lib.hid (HB2.out.trans (hb.mono (by simp; omega)))
  have HP : Hid (PicAt (w2.alloc (.cells #[.slice (some ⟨g, 0, none⟩) pic.length cap2] 29)) w2.heap.size 0 pic) :=
    ⟨hv, _, by rw [World.cell?_alloc_mark]; rfl, (OwnP.sl hown).below (Joins.below_alloc1 _ _)⟩
  clear hl hr hown hb hpic hv
  go_wp2
  go_ret
  refine ⟨_, bs, rfl, HL.out, HR.out, ?_, HBB.out.alloc HBB.out.size _⟩
  rw [HPic.out]
  exact HP.out
end Go.Proofs.YtakaglbbcaplhaaDoor

/- Contracts of single functions, and plain lemmas, on which the exact laws of this seat rest; each holds under the conditions that it states. -/
namespace Go.Proofs.YtakaglbbcaplhaaDoor
set_option linter.unusedVariables false
open Go.RowKit

set_option maxHeartbeats 4000000 in
set_option maxRecDepth 100000 in
theorem l01List_any (pb po : Nat) (ss : List ByteArray) (w : World) (hp : PicAt w pb po ss) :
    Calls Tryd.prog 134 #[.pointer (some ⟨pb, po, none⟩)] w (Listed ss w) := by
  obtain ⟨i0, hi, hz0, hz1, hz2⟩ := info_parts Tryd.info4
  obtain ⟨b, off, cap, hc, hst, V⟩ := hp.open'
  have hn := V.n16
  have hw := V.w16
  have hn1 := V.n1
  have hw1 := V.w1
  have hrows : ∀ y, y < ss.length → (ss.getD y ByteArray.empty).size = (row0 ss).size := fun y hy => (V.rows y hy).1
  have hlc : pb < w.heap.size := blk_lt hc
  have hlb := hst.1
  have HC := Lib.hid hc
  have HS := Lib.hid hst.2
  have HR := Lib.hid hrows
  obtain ⟨wd, hwd⟩ : ∃ k, (row0 ss).size = k := ⟨_, rfl⟩
  obtain ⟨n, hnn⟩ : ∃ k, ss.length = k := ⟨_, rfl⟩
  unfold Listed
  rw [hwd] at hw hw1 HR ⊢
  rw [hnn] at hn hn1 HC HS HR ⊢
  clear hp hc hst V hrows hwd hnn
  go_enter Tryd.func134, Tryd.ntmps134
  go_wp2
  go_loopw [3, 4] (fun v yv wr => ∃ y : Nat, y ≤ n ∧ yv = .int .i64 y ∧ wr.ownsRow w.heap.size 4 1 v (y * wd) (boolV (pixL ss wd (y * wd))) ∧ Below w.heap.size w wr) (fun _ yv _ => n - (intOf yv).toNat)
  case atStart =>
    refine ⟨0, Nat.zero_le _, rfl, ?_, Joins.below_alloc1 _ _⟩
    rw [Nat.zero_mul]
    exact World.ownsRow_lit (base := w.heap.size) (e := 4) (size := 1) w #[] 0 (Nat.le_refl _) (by unfold maxLen; omega) rfl
  case round =>
    obtain ⟨y, hy, rfl, hown, hbel⟩ := hrel
    have hcw := (hbel.cell (p := ⟨pb, po, none⟩) hlc).trans HC.out
    by_cases hlt : y < n
    · have kyn : (y : Int) < (n : Int) := by omega
      have HO := Lib.hid hown
      have HB := Lib.hid hbel
      clear hown hbel
      go_wp2
      go_loopw [3, 5] (fun v xv wr => ∃ x : Nat, x ≤ wd ∧ xv = .int .i64 x ∧ wr.ownsRow w.heap.size 4 1 v (y * wd + x) (boolV (pixL ss wd (y * wd + x))) ∧ Below w.heap.size w wr) (fun _ xv _ => wd - (intOf xv).toNat)
      case atStart => exact ⟨0, Nat.zero_le _, rfl, HO.out, HB.out⟩
      case round =>
        obtain ⟨x, hx, rfl, hown, hbel⟩ := hrel
        clear hcw HO HB
        have hcw := (hbel.cell (p := ⟨pb, po, none⟩) hlc).trans HC.out
        have hsw := (hbel.cell (p := ⟨b, off + y, none⟩) hlb).trans (HS.out y hlt)
        have hsz := HR.out y hlt
        have hpf : pixF ss y x = blackAt (ss.getD y ByteArray.empty) x := rfl
        obtain ⟨s, hs⟩ : ∃ s, ss.getD y ByteArray.empty = s := ⟨_, rfl⟩
        rw [hs] at hsw hsz hpf
        by_cases hlt2 : x < wd
        · have hxs : x < s.size := by omega
          have hb35 := black35 s x hxs
          have hsn := pixL_snoc ss wd y x hlt2
          rw [hpf] at hsn
          obtain ⟨bt, hbt⟩ : ∃ t, blackAt s x = t := ⟨_, rfl⟩
          rw [hbt] at hb35 hsn
          have kxs : (x : Int) < (s.size : Int) := by omega
          have ks : (s.size : Int) ≤ 16 := by omega
          have hNle : y * wd ≤ 256 := Nat.le_trans (Nat.mul_le_mul hy (Nat.le_refl _)) (Nat.mul_le_mul hn hw)
          have hs1 := hbel.size
          have HO := Lib.hid hown
          have HB := Lib.hid hbel
          have HSN := Lib.hid hsn
          obtain ⟨M, hM⟩ : ∃ M, y * wd + x = M := ⟨_, rfl⟩
          have HM := Lib.hid hM
          rw [hM] at HO HSN
          have hM2 : M ≤ 300 := by omega
          clear hown hbel hsn hM hs hpf hbt hsz
          go_wp2_with (at_builtin; refine wpList_append_own _ rfl _ _ 100 rfl w.heap.size 4 i0 (.bool false) 1 1 Tryd.underlying100 hi hz0 hz1 hz2 rfl (by decide) _ _ _ rfl (HO.out.alloc _) ⟨wr.heap.size, 0, none⟩ 1 1 [.bool bt] rfl rfl (cell_one_new _ _ _) (by intro u hu; simp at hu; subst hu; rfl) (by unfold maxLen; omega) (by omega) (by simp; omega) ?_)
          intro v' w2 hown' hgr _
          have o1 := HO.out.alloc (.cells #[.bool bt] 4)
          have B2 : Hid (Below w.heap.size w w2) := (HB.out.alloc hs1 _).grown hgr (by simp; omega) (fun k hk => (o1.lt k hk).1)
          have O2 : Hid (w2.ownsRow w.heap.size 4 1 v' (y * wd + (x + 1)) (boolV (pixL ss wd (y * wd + (x + 1))))) := by
            show World.ownsRow _ _ _ _ _ _ _
            rw [show y * wd + (x + 1) = M + 1 from by rw [← HM.out]; omega, HSN.out]
            exact hown'
          clear hown' hgr o1
          go_wp2
          go_roundw
          case rel => exact ⟨x + 1, by omega, by go_num, O2.out, B2.out⟩
          case measure => simp [intOf]; omega
        · obtain rfl : x = wd := by omega
          have kxs : (x : Int) = (s.size : Int) := by omega
          have knx : ¬ (x : Int) < (s.size : Int) := by omega
          have e1 : y * x + x = (y + 1) * x := by rw [Nat.add_mul, Nat.one_mul]
          rw [e1] at hown
          have HO := Lib.hid hown
          have HB := Lib.hid hbel
          have ks : (s.size : Int) ≤ 16 := by omega
          clear hown hbel hs hpf hsz kxs e1
          go_wp2
          go_roundw
          case rel => exact ⟨y + 1, hlt, by go_num, HO.out, HB.out⟩
          case measure => simp [intOf]; omega
    · obtain rfl : y = n := by omega
      rw [Nat.mul_comm y wd] at hown
      have h1 : 1 * 1 ≤ wd * y := Nat.mul_le_mul hw1 hn1
      obtain ⟨g, cap2, rfl⟩ := Joins.ownsRow_form hown (by omega)
      have HO := Lib.hid hown
      have HB := Lib.hid hbel
      clear hown hbel h1
      go_wp2
      go_ret
      exact ⟨g, cap2, rfl, HO.out, HB.out⟩
end Go.Proofs.YtakaglbbcaplhaaDoor

/- Contracts of single functions, and plain lemmas, on which the exact laws of this seat rest; each holds under the conditions that it states. -/
namespace Go.Proofs.YtakaglbbcaplhaaDoor
set_option linter.unusedVariables false
set_option linter.unusedSimpArgs false
open Go.RowKit

/-! ### the numbers of components -/
/-- the number of the last part that holds a place -/
def lab : List (Nat → Bool) → Nat → Nat
  | [], _ => 0
  | q :: ps, k => if lab ps k = 0 then (if q k then 1 else 0) else lab ps k + 1
theorem lab_snoc (q : Nat → Bool) (k : Nat) : ∀ ps : List (Nat → Bool), lab (ps ++ [q]) k = if q k then ps.length + 1 else lab ps k
  | [] => by simp [lab]
  | r :: ps => by
    have ih := lab_snoc q k ps
    show (if lab (ps ++ [q]) k = 0 then (if r k then 1 else 0) else lab (ps ++ [q]) k + 1) = _
    rw [ih]
    cases h : q k with
    | true => simp
    | false => simp only [Bool.false_eq_true, if_false]; rfl
theorem lab_le (k : Nat) : ∀ ps : List (Nat → Bool), lab ps k ≤ ps.length
  | [] => Nat.le_refl _
  | r :: ps => by
    have := lab_le k ps
    show (if lab ps k = 0 then (if r k then 1 else 0) else lab ps k + 1) ≤ ps.length + 1
    (repeat' split) <;> omega
open Classical in
/-- what is reached from a spot, by places -/
noncomputable def partP (p : Int → Int → Bool) (S : List (Int × Int)) (a : Nat) (s : Int × Int) (k : Nat) : Bool := decide (Reach p S [s] (((k % a : Nat) : Int), ((k / a : Nat) : Int)))
def idxS (a : Nat) (s : Int × Int) : Nat := s.2.toNat * a + s.1.toNat
/-- the parts that are told apart, spot by spot -/
noncomputable def partsP (p : Int → Int → Bool) (S : List (Int × Int)) (a : Nat) : List (Int × Int) → List (Nat → Bool) → List (Nat → Bool)
  | [], ps => ps
  | s :: l, ps => partsP p S a l (if 0 < lab ps (idxS a s) then ps else ps ++ [partP p S a s])
theorem partsP_snoc (p : Int → Int → Bool) (S : List (Int × Int)) (a : Nat) (s : Int × Int) : ∀ (l : List (Int × Int)) (ps : List (Nat → Bool)), partsP p S a (l ++ [s]) ps = (if 0 < lab (partsP p S a l ps) (idxS a s) then partsP p S a l ps else partsP p S a l ps ++ [partP p S a s])
  | [], ps => rfl
  | t :: l, ps => partsP_snoc p S a s l _
theorem partsP_len (p : Int → Int → Bool) (S : List (Int × Int)) (a : Nat) : ∀ (l : List (Int × Int)) (ps : List (Nat → Bool)), (partsP p S a l ps).length ≤ ps.length + l.length
  | [], ps => Nat.le_refl _
  | t :: l, ps => by
    have h := partsP_len p S a l (if 0 < lab ps (idxS a t) then ps else ps ++ [partP p S a t])
    show (partsP p S a l _).length ≤ ps.length + (l.length + 1)
    refine Nat.le_trans h ?_
    split
    · omega
    · simp; omega
/-- the numbers of all places -/
def labL (ps : List (Nat → Bool)) (N : Nat) : List Int := (List.range N).map fun k => ((lab ps k : Nat) : Int)
/-- the first t places know of one more part -/
def labM (ps : List (Nat → Bool)) (q : Nat → Bool) (t N : Nat) : List Int := (List.range N).map fun k => ((if k < t ∧ q k = true then ps.length + 1 else lab ps k : Nat) : Int)
theorem labM_zero (ps : List (Nat → Bool)) (q : Nat → Bool) (N : Nat) : labM ps q 0 N = labL ps N := by
  unfold labM labL
  refine List.map_congr_left fun k _ => ?_
  rw [if_neg (by omega)]
theorem labM_full (ps : List (Nat → Bool)) (q : Nat → Bool) (N : Nat) : labM ps q N N = labL (ps ++ [q]) N := by
  unfold labM labL
  refine List.map_congr_left fun k hk => ?_
  rw [List.mem_range] at hk
  rw [lab_snoc]
  cases h : q k <;> simp [hk]
theorem labM_no (ps : List (Nat → Bool)) (q : Nat → Bool) (t N : Nat) (h : q t = false) : labM ps q (t + 1) N = labM ps q t N := by
  unfold labM
  refine List.map_congr_left fun k hk => ?_
  by_cases e : k = t
  · subst e; simp [h]
  · have : (k < t + 1 ∧ q k = true) ↔ (k < t ∧ q k = true) := by constructor <;> (rintro ⟨h1, h2⟩; exact ⟨by omega, h2⟩)
    simp [this]
theorem labM_set (ps : List (Nat → Bool)) (q : Nat → Bool) (t N : Nat) (h : q t = true) : (numsV (labM ps q t N)).set t (.int .i64 ((ps.length + 1 : Nat) : Int)) = numsV (labM ps q (t + 1) N) := by
  unfold numsV labM
  rw [List.map_map, List.map_map, set_map_range]
  refine List.map_congr_left fun k hk => ?_
  by_cases e : k = t
  · subst e; simp [h]
  · have : (k < t + 1 ∧ q k = true) ↔ (k < t ∧ q k = true) := by constructor <;> (rintro ⟨h1, h2⟩; exact ⟨by omega, h2⟩)
    simp [this, e]
end Go.Proofs.YtakaglbbcaplhaaDoor
