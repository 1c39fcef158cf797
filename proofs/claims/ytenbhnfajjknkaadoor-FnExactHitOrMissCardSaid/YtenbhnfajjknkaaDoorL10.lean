/- Contracts of single functions, and plain lemmas, on which the exact laws of this seat rest; each holds under the conditions that it states. -/
import Derived.Test.YtenbhnfajjknkaaDoorL8
import Derived.Test.YtenbhnfajjknkaaDoorMw
import Derived.Test.YtenbhnfajjknkaaDoorSb
namespace Go.Proofs.YtenbhnfajjknkaaDoor
set_option linter.unusedVariables false
set_option linter.unusedSimpArgs false
open Go.RowKit

/-! ### a pixel of what an element makes -/
def opnQ (ss : List ByteArray) (xs : List (Int × Int)) (X Y : Int) (i : Nat) : Bool := fitB ss xs (X - (xs.getD i (0, 0)).1) (Y - (xs.getD i (0, 0)).2)
def opnI (ss : List ByteArray) (xs : List (Int × Int)) (X Y : Int) : Bool := (List.range xs.length).any (opnQ ss xs X Y)
def clsQ (ss : List ByteArray) (xs : List (Int × Int)) (X Y : Int) (i : Nat) : Bool := somB ss xs (X + (xs.getD i (0, 0)).1) (Y + (xs.getD i (0, 0)).2)
def clsI (ss : List ByteArray) (xs : List (Int × Int)) (X Y : Int) : Bool := (List.range xs.length).all (clsQ ss xs X Y)
theorem opn_bad {ss : List ByteArray} {xs : List (Int × Int)} {X Y : Int} {i : Nat} (hi : i < xs.length) (h : opnQ ss xs X Y i = true) : opnI ss xs X Y = true :=
  List.any_eq_true.2 ⟨i, List.mem_range.2 hi, h⟩
theorem opn_good {ss : List ByteArray} {xs : List (Int × Int)} {X Y : Int} (h : ∀ i, i < xs.length → opnQ ss xs X Y i = false) : opnI ss xs X Y = false := by
  unfold opnI
  rw [List.any_eq_false]
  intro i hi
  rw [h i (List.mem_range.1 hi)]
  simp
theorem cls_bad {ss : List ByteArray} {xs : List (Int × Int)} {X Y : Int} {i : Nat} (hi : i < xs.length) (h : clsQ ss xs X Y i = false) : clsI ss xs X Y = false := by
  unfold clsI
  rw [List.all_eq_false]
  exact ⟨i, List.mem_range.2 hi, by rw [h]; simp⟩
theorem cls_good {ss : List ByteArray} {xs : List (Int × Int)} {X Y : Int} (h : ∀ i, i < xs.length → clsQ ss xs X Y i = true) : clsI ss xs X Y = true :=
  List.all_eq_true.2 (fun i hi => h i (List.mem_range.1 hi))
theorem opn_pl (ss : List ByteArray) (xs : List (Int × Int)) (X Y : Int) : opnI ss xs X Y = plOpnB (pixI ss) xs X Y := by
  unfold opnI plOpnB
  have : opnQ ss xs X Y = fun i => (fun o : Int × Int => plFitB (pixI ss) xs (X - o.1) (Y - o.2)) (xs.getD i (0, 0)) := funext fun i => fitB_pl ss xs _ _
  rw [this]
  exact any_getD (xs := xs) (fun o : Int × Int => plFitB (pixI ss) xs (X - o.1) (Y - o.2))
theorem cls_pl (ss : List ByteArray) (xs : List (Int × Int)) (X Y : Int) : clsI ss xs X Y = plClsB (pixI ss) xs X Y := by
  unfold clsI plClsB
  have : clsQ ss xs X Y = fun i => (fun o : Int × Int => plSomB (pixI ss) xs (X + o.1) (Y + o.2)) (xs.getD i (0, 0)) := funext fun i => somB_pl ss xs _ _
  rw [this]
  exact all_getD (xs := xs) (fun o : Int × Int => plSomB (pixI ss) xs (X + o.1) (Y + o.2))

set_option maxHeartbeats 2000000 in
set_option maxRecDepth 100000 in
theorem pixel2_any (pp pe : Nat) (ss : List ByteArray) (v : Value) (xs : List (Int × Int)) (X Y : Int) (w : World) (hp : PicAt w pp 0 ss) (he : w.heap[pe]? = some (.cells #[v] 36 (0, 0))) (hv : SlS w v xs) (hN : xs.length ≤ 1048576) (hok : elB xs = true)
    (hX : 0 ≤ X ∧ X ≤ 16) (hY : 0 ≤ Y ∧ Y ≤ 16) : Calls Tryd.prog 97 #[.pointer (some ⟨pp, 0, none⟩), .pointer (some ⟨pe, 0, none⟩), .int .i64 2, .int .i64 X, .int .i64 Y] w (SaysB (opnI ss xs X Y) w) := by
  have hc0 := cell_of_one he
  have hlp := (Array.getElem?_eq_some_iff.1 he).1
  have HR := Lib.hid (elB_range hok)
  have HBad := Lib.hid (fun i => @opn_bad ss xs X Y i)
  have HGood := Lib.hid (@opn_good ss xs X Y)
  have CF : Hid (∀ x y : Int, -4 ≤ x ∧ x ≤ 4 → -4 ≤ y ∧ y ≤ 4 → ∀ W, Below w.heap.size w W → Calls Tryd.prog 58 #[.pointer (some ⟨pp, 0, none⟩), .pointer (some ⟨pe, 0, none⟩), .int .i64 (X - x), .int .i64 (Y - y)] W (SaysB (fitB ss xs (X - x) (Y - y)) W)) := fun x y h1 h2 W hb =>
    l03Fits_any pp pe ss v xs (X - x) (Y - y) W (hp.below hb) ((hb.block _ hlp).trans he) (hv.below hb) hN hok (by omega) (by omega)
  obtain ⟨ao, cap, rfl, hf⟩ := sl_form hv
  obtain ⟨n, hn⟩ : ∃ n, xs.length = n := ⟨_, rfl⟩
  rw [hn] at HR HBad HGood hf hN hc0
  obtain ⟨r, hr⟩ : ∃ r, opnI ss xs X Y = r := ⟨_, rfl⟩
  rw [hr] at HBad HGood
  rw [hr]
  have hsp : Hid (0 < n → ∃ b, ao = some ⟨b, 0, none⟩ ∧ Spots w b xs) := hf
  have Hn := Lib.hid hn
  have HFi : Hid (∀ i, opnQ ss xs X Y i = fitB ss xs (X - (xs.getD i (0, 0)).1) (Y - (xs.getD i (0, 0)).2)) := fun _ => rfl
  clear hp he hv hok hf hn hr
  go_enter Tryd.func97, Tryd.ntmps97
  go_wp2
  go_loopw [11] (fun iv wr => ∃ i : Nat, i ≤ n ∧ iv = .int .i64 i ∧ Hid (∀ j, j < i → opnQ ss xs X Y j = false) ∧ Hid (Below w.heap.size w wr)) (fun iv _ => n - (intOf iv).toNat)
  case atStart => exact ⟨0, Nat.zero_le _, rfl, fun j h => absurd h (Nat.not_lt_zero j), Below.refl _ _⟩
  case round =>
    obtain ⟨i, hi, rfl, HJ, HB⟩ := hrel
    have hs := HB.out.size
    have p0 := cell_kept HB.out hc0
    have lp : pe < wr.heap.size := by omega
    by_cases hlt : i < n
    · have klt : (i : Int) < (n : Int) := by omega
      obtain ⟨b, rfl, hbl, hcs⟩ := hsp.out (by omega)
      have c0 := cell_kept HB.out (hcs i (by rw [Hn.out]; exact hlt)).1
      have c1 := cell_kept HB.out (hcs i (by rw [Hn.out]; exact hlt)).2
      have lb : b < wr.heap.size := by omega
      have hrg := HR.out i hlt
      have hfi := HFi.out i
      have hbd := HBad.out i hlt
      have HJs : Hid (opnQ ss xs X Y i = false → ∀ j, j < i + 1 → opnQ ss xs X Y j = false) := fun h j hj => by
        by_cases e : j = i
        · rw [e]; exact h
        · exact HJ.out j (by omega)
      obtain ⟨q, hq⟩ : ∃ q, opnQ ss xs X Y i = q := ⟨_, rfl⟩
      rw [hq] at hfi hbd HJs
      obtain ⟨x, hx⟩ : ∃ x, (xs.getD i (0, 0)).1 = x := ⟨_, rfl⟩
      obtain ⟨y, hy⟩ : ∃ y, (xs.getD i (0, 0)).2 = y := ⟨_, rfl⟩
      rw [hx] at c0 hfi hrg
      rw [hy] at c1 hfi hrg
      obtain ⟨⟨r1, r2⟩, r3, r4⟩ := hrg
      have CFi := Lib.hid (CF.out x y ⟨r1, r2⟩ ⟨r3, r4⟩)
      rw [← hfi] at CFi
      have HBD := Lib.hid hbd
      have hbA := HB.out.trans ((Joins.below_alloc1 wr (.cells #[.int .i64 x, .int .i64 y] 79)).mono hs)
      have HBA := Lib.hid hbA
      have CFw := Lib.hid (CFi.out _ HBA.out)
      clear hx hy hq hfi hbd hcs hbA CFi
      cases q with
      | true =>
        have HRes := Lib.hid (HBD.out rfl)
        go_wp2_with fail
        refine CFw.out.mono ?_
        rintro e w2 ⟨rfl, hb2⟩
        have HB2 := Lib.hid (HBA.out.trans (hb2.mono HBA.out.size))
        clear hb2
        go_wp2
        go_ret
        exact ⟨ret_bool HRes.out.symm, HB2.out⟩
      | false =>
        have HNx := Lib.hid (HJs.out rfl)
        go_wp2_with fail
        refine CFw.out.mono ?_
        rintro e w2 ⟨rfl, hb2⟩
        have HB2 := Lib.hid (HBA.out.trans (hb2.mono HBA.out.size))
        clear hb2
        go_wp2
        go_roundw
        case rel => exact ⟨i + 1, by omega, by go_num, HNx.out, HB2.out⟩
        case measure => simp [intOf]; omega
    · obtain rfl : i = n := by omega
      have HRes := Lib.hid (HGood.out HJ.out)
      go_wp2
      go_ret
      exact ⟨ret_bool HRes.out.symm, HB.out⟩

set_option maxHeartbeats 2000000 in
set_option maxRecDepth 100000 in
theorem pixel3_any (pp pe : Nat) (ss : List ByteArray) (v : Value) (xs : List (Int × Int)) (X Y : Int) (w : World) (hp : PicAt w pp 0 ss) (he : w.heap[pe]? = some (.cells #[v] 36 (0, 0))) (hv : SlS w v xs) (hN : xs.length ≤ 1048576) (hok : elB xs = true)
    (hX : 0 ≤ X ∧ X ≤ 16) (hY : 0 ≤ Y ∧ Y ≤ 16) : Calls Tryd.prog 97 #[.pointer (some ⟨pp, 0, none⟩), .pointer (some ⟨pe, 0, none⟩), .int .i64 3, .int .i64 X, .int .i64 Y] w (SaysB (clsI ss xs X Y) w) := by
  have hc0 := cell_of_one he
  have hlp := (Array.getElem?_eq_some_iff.1 he).1
  have HR := Lib.hid (elB_range hok)
  have HBad := Lib.hid (fun i => @cls_bad ss xs X Y i)
  have HGood := Lib.hid (@cls_good ss xs X Y)
  have CF : Hid (∀ x y : Int, -4 ≤ x ∧ x ≤ 4 → -4 ≤ y ∧ y ≤ 4 → ∀ W, Below w.heap.size w W → Calls Tryd.prog 110 #[.pointer (some ⟨pp, 0, none⟩), .pointer (some ⟨pe, 0, none⟩), .int .i64 (X + x), .int .i64 (Y + y)] W (SaysB (somB ss xs (X + x) (Y + y)) W)) := fun x y h1 h2 W hb =>
    l03Some_any pp pe ss v xs (X + x) (Y + y) W (hp.below hb) ((hb.block _ hlp).trans he) (hv.below hb) hN hok (by omega) (by omega)
  obtain ⟨ao, cap, rfl, hf⟩ := sl_form hv
  obtain ⟨n, hn⟩ : ∃ n, xs.length = n := ⟨_, rfl⟩
  rw [hn] at HR HBad HGood hf hN hc0
  obtain ⟨r, hr⟩ : ∃ r, clsI ss xs X Y = r := ⟨_, rfl⟩
  rw [hr] at HBad HGood
  rw [hr]
  have hsp : Hid (0 < n → ∃ b, ao = some ⟨b, 0, none⟩ ∧ Spots w b xs) := hf
  have Hn := Lib.hid hn
  have HFi : Hid (∀ i, clsQ ss xs X Y i = somB ss xs (X + (xs.getD i (0, 0)).1) (Y + (xs.getD i (0, 0)).2)) := fun _ => rfl
  clear hp he hv hok hf hn hr
  go_enter Tryd.func97, Tryd.ntmps97
  go_wp2
  go_loopw [11] (fun iv wr => ∃ i : Nat, i ≤ n ∧ iv = .int .i64 i ∧ Hid (∀ j, j < i → clsQ ss xs X Y j = true) ∧ Hid (Below w.heap.size w wr)) (fun iv _ => n - (intOf iv).toNat)
  case atStart => exact ⟨0, Nat.zero_le _, rfl, fun j h => absurd h (Nat.not_lt_zero j), Below.refl _ _⟩
  case round =>
    obtain ⟨i, hi, rfl, HJ, HB⟩ := hrel
    have hs := HB.out.size
    have p0 := cell_kept HB.out hc0
    have lp : pe < wr.heap.size := by omega
    by_cases hlt : i < n
    · have klt : (i : Int) < (n : Int) := by omega
      obtain ⟨b, rfl, hbl, hcs⟩ := hsp.out (by omega)
      have c0 := cell_kept HB.out (hcs i (by rw [Hn.out]; exact hlt)).1
      have c1 := cell_kept HB.out (hcs i (by rw [Hn.out]; exact hlt)).2
      have lb : b < wr.heap.size := by omega
      have hrg := HR.out i hlt
      have hfi := HFi.out i
      have hbd := HBad.out i hlt
      have HJs : Hid (clsQ ss xs X Y i = true → ∀ j, j < i + 1 → clsQ ss xs X Y j = true) := fun h j hj => by
        by_cases e : j = i
        · rw [e]; exact h
        · exact HJ.out j (by omega)
      obtain ⟨q, hq⟩ : ∃ q, clsQ ss xs X Y i = q := ⟨_, rfl⟩
      rw [hq] at hfi hbd HJs
      obtain ⟨x, hx⟩ : ∃ x, (xs.getD i (0, 0)).1 = x := ⟨_, rfl⟩
      obtain ⟨y, hy⟩ : ∃ y, (xs.getD i (0, 0)).2 = y := ⟨_, rfl⟩
      rw [hx] at c0 hfi hrg
      rw [hy] at c1 hfi hrg
      obtain ⟨⟨r1, r2⟩, r3, r4⟩ := hrg
      have CFi := Lib.hid (CF.out x y ⟨r1, r2⟩ ⟨r3, r4⟩)
      rw [← hfi] at CFi
      have HBD := Lib.hid hbd
      have hbA := HB.out.trans ((Joins.below_alloc1 wr (.cells #[.int .i64 x, .int .i64 y] 79)).mono hs)
      have HBA := Lib.hid hbA
      have CFw := Lib.hid (CFi.out _ HBA.out)
      clear hx hy hq hfi hbd hcs hbA CFi
      cases q with
      | false =>
        have HRes := Lib.hid (HBD.out rfl)
        go_wp2_with fail
        refine CFw.out.mono ?_
        rintro e w2 ⟨rfl, hb2⟩
        have HB2 := Lib.hid (HBA.out.trans (hb2.mono HBA.out.size))
        clear hb2
        go_wp2
        go_ret
        exact ⟨ret_bool HRes.out.symm, HB2.out⟩
      | true =>
        have HNx := Lib.hid (HJs.out rfl)
        go_wp2_with fail
        refine CFw.out.mono ?_
        rintro e w2 ⟨rfl, hb2⟩
        have HB2 := Lib.hid (HBA.out.trans (hb2.mono HBA.out.size))
        clear hb2
        go_wp2
        go_roundw
        case rel => exact ⟨i + 1, by omega, by go_num, HNx.out, HB2.out⟩
        case measure => simp [intOf]; omega
    · obtain rfl : i = n := by omega
      have HRes := Lib.hid (HGood.out HJ.out)
      go_wp2
      go_ret
      exact ⟨ret_bool HRes.out.symm, HB.out⟩

set_option maxHeartbeats 1000000 in
set_option maxRecDepth 100000 in
theorem pixel0_any (pp pe : Nat) (ss : List ByteArray) (v : Value) (xs : List (Int × Int)) (X Y : Int) (w : World) (hp : PicAt w pp 0 ss) (he : w.heap[pe]? = some (.cells #[v] 36 (0, 0))) (hv : SlS w v xs) (hN : xs.length ≤ 1048576) (hok : elB xs = true)
    (hX : 0 ≤ X ∧ X ≤ 16) (hY : 0 ≤ Y ∧ Y ≤ 16) : Calls Tryd.prog 97 #[.pointer (some ⟨pp, 0, none⟩), .pointer (some ⟨pe, 0, none⟩), .int .i64 0, .int .i64 X, .int .i64 Y] w (SaysB (somB ss xs X Y) w) := by
  have C := Lib.hid (l03Some_any pp pe ss v xs X Y w hp he hv hN hok (by omega) (by omega))
  obtain ⟨r, hr⟩ : ∃ r, somB ss xs X Y = r := ⟨_, rfl⟩
  rw [hr] at C ⊢
  clear hp he hv hok hr
  go_enter Tryd.func97, Tryd.ntmps97
  go_wp2_with fail
  refine C.out.mono ?_
  rintro e w2 ⟨rfl, hb2⟩
  have HB := Lib.hid hb2
  clear hb2
  go_wp2
  go_ret
  exact ⟨rfl, HB.out⟩

set_option maxHeartbeats 1000000 in
set_option maxRecDepth 100000 in
theorem pixel1_any (pp pe : Nat) (ss : List ByteArray) (v : Value) (xs : List (Int × Int)) (X Y : Int) (w : World) (hp : PicAt w pp 0 ss) (he : w.heap[pe]? = some (.cells #[v] 36 (0, 0))) (hv : SlS w v xs) (hN : xs.length ≤ 1048576) (hok : elB xs = true)
    (hX : 0 ≤ X ∧ X ≤ 16) (hY : 0 ≤ Y ∧ Y ≤ 16) : Calls Tryd.prog 97 #[.pointer (some ⟨pp, 0, none⟩), .pointer (some ⟨pe, 0, none⟩), .int .i64 1, .int .i64 X, .int .i64 Y] w (SaysB (fitB ss xs X Y) w) := by
  have C := Lib.hid (l03Fits_any pp pe ss v xs X Y w hp he hv hN hok (by omega) (by omega))
  obtain ⟨r, hr⟩ : ∃ r, fitB ss xs X Y = r := ⟨_, rfl⟩
  rw [hr] at C ⊢
  clear hp he hv hok hr
  go_enter Tryd.func97, Tryd.ntmps97
  go_wp2_with fail
  refine C.out.mono ?_
  rintro e w2 ⟨rfl, hb2⟩
  have HB := Lib.hid hb2
  clear hb2
  go_wp2
  go_ret
  exact ⟨rfl, HB.out⟩

/-- what an element makes of a pixel -/
def pxB (k : Nat) (ss : List ByteArray) (xs : List (Int × Int)) (X Y : Int) : Bool := if k = 0 then somB ss xs X Y else if k = 1 then fitB ss xs X Y else if k = 2 then opnI ss xs X Y else clsI ss xs X Y
theorem pixel_any (k : Nat) (hk : k < 4) (pp pe : Nat) (ss : List ByteArray) (v : Value) (xs : List (Int × Int)) (X Y : Int) (w : World) (hp : PicAt w pp 0 ss) (he : w.heap[pe]? = some (.cells #[v] 36 (0, 0))) (hv : SlS w v xs) (hN : xs.length ≤ 1048576) (hok : elB xs = true)
    (hX : 0 ≤ X ∧ X ≤ 16) (hY : 0 ≤ Y ∧ Y ≤ 16) : Calls Tryd.prog 97 #[.pointer (some ⟨pp, 0, none⟩), .pointer (some ⟨pe, 0, none⟩), .int .i64 k, .int .i64 X, .int .i64 Y] w (SaysB (pxB k ss xs X Y) w) := by
  rcases (by omega : k = 0 ∨ k = 1 ∨ k = 2 ∨ k = 3) with rfl | rfl | rfl | rfl
  · exact pixel0_any pp pe ss v xs X Y w hp he hv hN hok hX hY
  · exact pixel1_any pp pe ss v xs X Y w hp he hv hN hok hX hY
  · exact pixel2_any pp pe ss v xs X Y w hp he hv hN hok hX hY
  · exact pixel3_any pp pe ss v xs X Y w hp he hv hN hok hX hY
/-- what a plane shows behind a change -/
def chG (k : Nat) (g : Nat → Nat) (xs : List (Int × Int)) : Nat → Nat := if k = 0 then grG g xs else if k = 1 then shG2 g xs else if k = 2 then opG g xs else clG g xs
theorem chG_pix (k : Nat) {ss : List ByteArray} (V : VP ss) (xs : List (Int × Int)) (hE : ElOk xs) (x y : Nat) (hx : x < 16) (hy : y < 16) : plX (chG k (plOf (wordsOf ss) ss.length) xs) y x = pxB k ss xs x y := by
  have hg := plOf_plw (wordsOf ss) ss.length (words_small V)
  have hp : plF (plOf (wordsOf ss) ss.length) = pixI ss := funext fun X => funext fun Y => plOf_pix V X Y
  rw [plX_plF _ x y hx hy]
  unfold chG pxB
  split
  · rw [gr_pix _ hg xs hE x y (decide_eq_true (by omega)), hp, somB_pl]
    rfl
  · split
    · rw [sh_pix _ hg xs hE x y (decide_eq_true (by omega)), hp, fitB_pl]
      rfl
    · split
      · rw [op_pix _ hg xs hE x y hx hy, hp, opn_pl]
      · rw [cl_pix _ hg xs hE x y hx hy, hp, cls_pl]
end Go.Proofs.YtenbhnfajjknkaaDoor

/- Contracts of single functions, and plain lemmas, on which the exact laws of this seat rest; each holds under the conditions that it states. -/
namespace Go.Proofs.YtenbhnfajjknkaaDoor
set_option linter.unusedVariables false
open Go.RowKit

/-- a pixel of what an element makes -/
def pxF (k : Nat) (ss : List ByteArray) (xs : List (Int × Int)) (y x : Nat) : Bool := pxB k ss xs x y

set_option maxHeartbeats 4000000 in
set_option maxRecDepth 100000 in
theorem l03Make_any (k : Nat) (hk : k < 4) (pb pe : Nat) (ss : List ByteArray) (v : Value) (xs : List (Int × Int)) (w : World) (hpa : PicAt w pb 0 ss) (he : w.heap[pe]? = some (.cells #[v] 36 (0, 0))) (hv : SlS w v xs) (hN : xs.length ≤ 1048576) (hok : elB xs = true) :
    Calls Tryd.prog 67 #[.pointer (some ⟨pb, 0, none⟩), .pointer (some ⟨pe, 0, none⟩), .int .i64 k] w (TookPic w (mkPic (row0 ss).size ss.length (pxF k ss xs))) := by
  obtain ⟨i0, hi, hz0, hz1, hz2⟩ := info_parts Tryd.info4
  obtain ⟨b0, off0, cap0, hcc, hst, V⟩ := hpa.open'
  have hw1 := V.w1
  have hw16 := V.w16
  have hn1 := V.n1
  have hn16 := V.n16
  have hlpe := (Array.getElem?_eq_some_iff.1 he).1
  have hP0 : Hid ((w.alloc (.cells #[.slice none 0 0] 30)).heap[w.heap.size]? = some (.cells #[.slice none 0 0] 30 (0, 0))) := heap_alloc_last w _
  have CW : Hid (∀ W, PicAt W pb 0 ss → Calls Tryd.prog 57 #[.pointer (some ⟨pb, 0, none⟩)] W fun e w' => e = .returned (.int .i64 (row0 ss).size) ∧ W = w') := fun W h => l01Width_any _ _ ss W h
  have CH : Hid (∀ W, PicAt W pb 0 ss → Calls Tryd.prog 56 #[.pointer (some ⟨pb, 0, none⟩)] W fun e w' => e = .returned (.int .i64 ss.length) ∧ W = w') := fun W h => l01Height_any _ _ ss W h
  have CB : Hid (∀ (x y : Nat), x < 16 → y < 16 → ∀ W, Below w.heap.size w W → Calls Tryd.prog 97 #[.pointer (some ⟨pb, 0, none⟩), .pointer (some ⟨pe, 0, none⟩), .int .i64 k, .int .i64 x, .int .i64 y] W (SaysB (pxF k ss xs y x) W)) := fun x y h1 h2 W hb =>
    pixel_any k hk pb pe ss v xs x y W (hpa.below hb) ((hb.block _ hlpe).trans he) (hv.below hb) hN hok (by omega) (by omega)
  have CM := Lib.hid (fun (lb cap : Nat) (W : World) (hB : Bools W lb 0 (listF (pxF k ss xs) (row0 ss).size ((row0 ss).size * ss.length))) => make_list (pxF k ss xs) lb cap (row0 ss).size ss.length W ⟨hw1, hw16⟩ ⟨hn1, hn16⟩ hB)
  obtain ⟨f, hf⟩ : ∃ f, pxF k ss xs = f := ⟨_, rfl⟩
  rw [hf] at CB CM ⊢
  obtain ⟨wd, hwd⟩ : ∃ k, (row0 ss).size = k := ⟨_, rfl⟩
  obtain ⟨n, hnn⟩ : ∃ k, ss.length = k := ⟨_, rfl⟩
  rw [hwd] at CW CM hw1 hw16 ⊢
  rw [hnn] at CH CM hn1 hn16 ⊢
  have HPA := Lib.hid hpa
  have hlp : pb < w.heap.size := blk_lt hcc
  obtain ⟨pic, hpic⟩ : ∃ p, mkPic wd n f = p := ⟨_, rfl⟩
  rw [hpic] at CM ⊢
  clear hcc hst V hpa hf hwd hnn hpic he hv hN hok hk hlpe
  go_enter Tryd.func67, Tryd.ntmps67
  go_wp2
  go_loopw [7, 8] (fun v yv wr => ∃ y : Nat, y ≤ n ∧ yv = .int .i64 y ∧ wr.ownsRow (w.heap.size + 1) 4 1 v (y * wd) (boolV (listF f wd (y * wd))) ∧ Below (w.heap.size + 1) (w.alloc (.cells #[.slice none 0 0] 30)) wr) (fun _ yv _ => n - (intOf yv).toNat)
  case atStart =>
    refine ⟨0, Nat.zero_le _, rfl, ?_, ?_⟩
    · rw [Nat.zero_mul]
      have := World.ownsRow_lit (base := w.heap.size + 1) (e := 4) (size := 1) (w.alloc (.cells #[.slice none 0 0] 30)) #[] 0 (by simp) (by unfold maxLen; omega) rfl
      simpa [boolV, listF] using this
    · exact (Below.refl _ _).alloc (by simp) _
  case round =>
    obtain ⟨y, hy, rfl, hown, hbel⟩ := hrel
    have B0 : Hid (Below w.heap.size w wr) := (Joins.below_alloc1 w (.cells #[.slice none 0 0] 30)).trans (hbel.mono (by simp))
    have A0 := Lib.hid (HPA.out.below B0.out)
    by_cases hlt : y < n
    · have kyn : (y : Int) < (n : Int) := by omega
      have HO := Lib.hid hown
      have HB := Lib.hid hbel
      clear hown hbel
      go_wp2_with fail
      refine (CH.out _ A0.out).mono ?_
      rintro e w' ⟨rfl, rfl⟩
      go_wp2_with fail
      go_loopw [7, 9] (fun v xv wr => ∃ x : Nat, x ≤ wd ∧ xv = .int .i64 x ∧ wr.ownsRow (w.heap.size + 1) 4 1 v (y * wd + x) (boolV (listF f wd (y * wd + x))) ∧ Below (w.heap.size + 1) (w.alloc (.cells #[.slice none 0 0] 30)) wr) (fun _ xv _ => wd - (intOf xv).toNat)
      case atStart => exact ⟨0, Nat.zero_le _, rfl, HO.out, HB.out⟩
      case round =>
        clear HO HB A0 B0
        obtain ⟨x, hx, rfl, hown, hbel⟩ := hrel
        have B0 : Hid (Below w.heap.size w wr) := (Joins.below_alloc1 w (.cells #[.slice none 0 0] 30)).trans (hbel.mono (by simp))
        have A0 := Lib.hid (HPA.out.below B0.out)
        by_cases hlt2 : x < wd
        · have kxw : (x : Int) < (wd : Int) := by omega
          have hsn := listF_snoc f wd y x hlt2
          have cb := CB.out x y (by omega) (by omega)
          obtain ⟨bt, hbt⟩ : ∃ t, f y x = t := ⟨_, rfl⟩
          rw [hbt] at hsn cb
          have CBt := Lib.hid cb
          have hNle : y * wd ≤ 256 := Nat.le_trans (Nat.mul_le_mul hy (Nat.le_refl _)) (Nat.mul_le_mul hn16 hw16)
          have hs1 := hbel.size
          have HO := Lib.hid hown
          have HB := Lib.hid hbel
          have HSN := Lib.hid hsn
          obtain ⟨M, hM⟩ : ∃ M, y * wd + x = M := ⟨_, rfl⟩
          have HM := Lib.hid hM
          rw [hM] at HO HSN
          have hM2 : M ≤ 300 := by omega
          clear hown hbel hsn hM hbt cb
          go_wp2_with fail
          refine (CW.out _ A0.out).mono ?_
          rintro e w' ⟨rfl, rfl⟩
          go_wp2_with fail
          refine (CBt.out _ B0.out).mono ?_
          rintro e w5 ⟨rfl, hb5⟩
          have hs5 := hb5.size
          have HO5 := Lib.hid (own_below HO.out hb5)
          have HB5 := Lib.hid (HB.out.trans (hb5.mono (by simp at hs1 ⊢; omega)))
          clear hb5
          go_wp2_with (at_builtin; refine wpList_append_own _ rfl _ _ 74 rfl (w.heap.size + 1) 4 i0 (.bool false) 1 1 Tryd.underlying74 hi hz0 hz1 hz2 rfl (by decide) _ _ _ rfl (HO5.out.alloc _) ⟨w5.heap.size, 0, none⟩ 1 1 [.bool bt] rfl rfl (cell_one_new _ _ _) (by intro u hu; simp at hu; subst hu; rfl) (by unfold maxLen; omega) (by omega) (by simp at hs1 hs5 ⊢; omega) ?_)
          intro v' w2 hown' hgr _
          have o1 := HO5.out.alloc (.cells #[.bool bt] 4)
          have B2 : Hid (Below (w.heap.size + 1) (w.alloc (.cells #[.slice none 0 0] 30)) w2) := (HB5.out.alloc (by simp at hs1; omega) _).grown hgr (by simp at hs1 hs5 ⊢; omega) (fun k hk => (o1.lt k hk).1)
          have O2 : Hid (w2.ownsRow (w.heap.size + 1) 4 1 v' (y * wd + (x + 1)) (boolV (listF f wd (y * wd + (x + 1))))) := by
            show World.ownsRow _ _ _ _ _ _ _
            rw [show y * wd + (x + 1) = M + 1 from by rw [← HM.out]; omega, HSN.out]
            exact hown'
          clear hown' hgr o1
          go_wp2
          go_roundw
          case rel => exact ⟨x + 1, by omega, by go_num, O2.out, B2.out⟩
          case measure => simp [intOf]; omega
        · obtain rfl : x = wd := by omega
          have e1 : y * x + x = (y + 1) * x := by rw [Nat.add_mul, Nat.one_mul]
          rw [e1] at hown
          have HO := Lib.hid hown
          have HB := Lib.hid hbel
          clear hown hbel e1
          go_wp2_with fail
          refine (CW.out _ A0.out).mono ?_
          rintro e w' ⟨rfl, rfl⟩
          go_wp2
          go_roundw
          case rel => exact ⟨y + 1, hlt, by go_num, HO.out, HB.out⟩
          case measure => simp [intOf]; omega
    · obtain rfl : y = n := by omega
      rw [Nat.mul_comm y wd] at hown
      have h1 : 1 * 1 ≤ wd * y := Nat.mul_le_mul hw1 hn1
      obtain ⟨g, cap2, rfl⟩ := Joins.ownsRow_form hown (by omega)
      have HBl : Hid (Bools wr g 0 (listF f wd (wd * y))) := own_bools hown (listF_len _ _ _)
      have P1 := Lib.hid ((hbel.block w.heap.size (by simp)).trans hP0.out)
      clear hown hbel h1
      go_wp2_with fail
      refine (CH.out _ A0.out).mono ?_
      rintro e w' ⟨rfl, rfl⟩
      go_wp2_with fail
      refine (CW.out _ A0.out).mono ?_
      rintro e w' ⟨rfl, rfl⟩
      go_wp2_with fail
      refine (CM.out _ _ _ HBl.out).mono ?_
      rintro e w4 ⟨g4, cap4, rfl, hown4, hb4⟩
      have hp2 := (hb4.block w.heap.size (Array.getElem?_eq_some_iff.1 P1.out).1).trans P1.out
      have hfr : w4.frozen? ⟨w.heap.size, 0, none⟩ = false := free_of_one hp2
      have hc2 : w4.cell? ⟨w.heap.size, 0, none⟩ = some (.slice none 0 0) := cell_of_one hp2
      have O2 := Lib.hid (own_set (u := .slice (some ⟨g4, 0, none⟩) pic.length cap4) hown4 hp2 (by decide))
      have P4 := Lib.hid hp2
      have B4 := Lib.hid (B0.out.trans (hb4.mono B0.out.size))
      have hs3 := B0.out.size
      clear hown4 hp2 hb4
      go_wp2_with fail
      refine bodyPost_ret (v := .agg #[.slice (some ⟨g4, 0, none⟩) pic.length cap4]) (by simp [results, Tryd.results67, go_sem, cell_of_one (one_setCell P4.out)]) rfl ⟨g4, cap4, rfl, Joins.ownsRow_le O2.out hs3, B4.out.setCell (by simp) _⟩
end Go.Proofs.YtenbhnfajjknkaaDoor
