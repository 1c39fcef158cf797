/- Contracts of single functions, and plain lemmas, on which the exact laws of this seat rest; each holds under the conditions that it states. -/
import Derived.Test.YtenbhnfajjknkaaDoorB1
import Derived.Test.YtenbhnfajjknkaaDoorL7
namespace Go.Proofs.YtenbhnfajjknkaaDoor
set_option linter.unusedVariables false
set_option linter.unusedSimpArgs false
open Go.RowKit

/-! ### some offset leads from a black pixel -/
def somP (ss : List ByteArray) (xs : List (Int × Int)) (X Y : Int) (i : Nat) : Bool := pixI ss (X - (xs.getD i (0, 0)).1) (Y - (xs.getD i (0, 0)).2)
def somB (ss : List ByteArray) (xs : List (Int × Int)) (X Y : Int) : Bool := (List.range xs.length).any (somP ss xs X Y)
theorem somB_bad {ss : List ByteArray} {xs : List (Int × Int)} {X Y : Int} {i : Nat} (hi : i < xs.length) (h : somP ss xs X Y i = true) : somB ss xs X Y = true :=
  List.any_eq_true.2 ⟨i, List.mem_range.2 hi, h⟩
theorem somB_good {ss : List ByteArray} {xs : List (Int × Int)} {X Y : Int} (h : ∀ i, i < xs.length → somP ss xs X Y i = false) : somB ss xs X Y = false := by
  unfold somB
  rw [List.any_eq_false]
  intro i hi
  rw [h i (List.mem_range.1 hi)]
  simp
theorem any_getD {xs : List (Int × Int)} (F : Int × Int → Bool) : ((List.range xs.length).any fun i => F (xs.getD i (0, 0))) = xs.any F := by
  rw [Bool.eq_iff_iff, List.any_eq_true, List.any_eq_true]
  constructor
  · rintro ⟨i, hi, h⟩
    rw [List.mem_range] at hi
    refine ⟨xs.getD i (0, 0), ?_, h⟩
    rw [List.getD_eq_getElem?_getD, List.getElem?_eq_getElem hi]
    exact List.getElem_mem hi
  · rintro ⟨o, ho, h⟩
    obtain ⟨i, hi, rfl⟩ := List.mem_iff_getElem.1 ho
    refine ⟨i, List.mem_range.2 hi, ?_⟩
    rw [List.getD_eq_getElem?_getD, List.getElem?_eq_getElem hi]
    exact h
theorem all_getD {xs : List (Int × Int)} (F : Int × Int → Bool) : ((List.range xs.length).all fun i => F (xs.getD i (0, 0))) = xs.all F := by
  rw [Bool.eq_iff_iff, List.all_eq_true, List.all_eq_true]
  constructor
  · intro h o ho
    obtain ⟨i, hi, rfl⟩ := List.mem_iff_getElem.1 ho
    have := h i (List.mem_range.2 hi)
    rwa [List.getD_eq_getElem?_getD, List.getElem?_eq_getElem hi] at this
  · intro h i hi
    rw [List.mem_range] at hi
    refine h _ ?_
    rw [List.getD_eq_getElem?_getD, List.getElem?_eq_getElem hi]
    exact List.getElem_mem hi
theorem somB_pl (ss : List ByteArray) (xs : List (Int × Int)) (X Y : Int) : somB ss xs X Y = plSomB (pixI ss) xs X Y := any_getD (fun o => pixI ss (X - o.1) (Y - o.2))
theorem fitB_pl (ss : List ByteArray) (xs : List (Int × Int)) (X Y : Int) : fitB ss xs X Y = plFitB (pixI ss) xs X Y := all_getD (fun o => pixI ss (X + o.1) (Y + o.2))

set_option maxHeartbeats 2000000 in
set_option maxRecDepth 100000 in
theorem l03Some_any (pp pe : Nat) (ss : List ByteArray) (v : Value) (xs : List (Int × Int)) (X Y : Int) (w : World) (hp : PicAt w pp 0 ss) (he : w.heap[pe]? = some (.cells #[v] 36 (0, 0))) (hv : SlS w v xs) (hN : xs.length ≤ 1048576) (hok : elB xs = true)
    (hX : -16 ≤ X ∧ X ≤ 32) (hY : -16 ≤ Y ∧ Y ≤ 32) : Calls Tryd.prog 110 #[.pointer (some ⟨pp, 0, none⟩), .pointer (some ⟨pe, 0, none⟩), .int .i64 X, .int .i64 Y] w (SaysB (somB ss xs X Y) w) := by
  have hc0 := cell_of_one he
  have hlp := (Array.getElem?_eq_some_iff.1 he).1
  have HR := Lib.hid (elB_range hok)
  have HBad := Lib.hid (fun i => @somB_bad ss xs X Y i)
  have HGood := Lib.hid (@somB_good ss xs X Y)
  have HFi : Hid (∀ i, somP ss xs X Y i = pixI ss (X - (xs.getD i (0, 0)).1) (Y - (xs.getD i (0, 0)).2)) := fun _ => rfl
  have HP := Lib.hid hp
  obtain ⟨ao, cap, rfl, hf⟩ := sl_form hv
  have CB : Hid (∀ x y W, PicAt W pp 0 ss → Calls Tryd.prog 59 #[.pointer (some ⟨pp, 0, none⟩), .int .i64 x, .int .i64 y] W fun e w' => e = .returned (.bool (pixI ss x y)) ∧ W = w') := fun x y W h => l01Black_any pp 0 ss x y W h
  obtain ⟨n, hn⟩ : ∃ n, xs.length = n := ⟨_, rfl⟩
  rw [hn] at HR HBad HGood hf hN hc0
  obtain ⟨r, hr⟩ : ∃ r, somB ss xs X Y = r := ⟨_, rfl⟩
  rw [hr] at HBad HGood
  rw [hr]
  have hsp : Hid (0 < n → ∃ b, ao = some ⟨b, 0, none⟩ ∧ Spots w b xs) := hf
  have Hn := Lib.hid hn
  clear hp he hv hok hf hn hr
  go_enter Tryd.func110, Tryd.ntmps110
  go_wp2
  go_loopw [9] (fun iv wr => ∃ i : Nat, i ≤ n ∧ iv = .int .i64 i ∧ Hid (∀ j, j < i → somP ss xs X Y j = false) ∧ Hid (Below w.heap.size w wr)) (fun iv _ => n - (intOf iv).toNat)
  case atStart => exact ⟨0, Nat.zero_le _, rfl, fun j h => absurd h (Nat.not_lt_zero j), Below.refl _ _⟩
  case round =>
    obtain ⟨i, hi, rfl, HJ, HB⟩ := hrel
    have hs := HB.out.size
    have p0 := cell_kept HB.out hc0
    have lp : pe < wr.heap.size := by omega
    by_cases hlt : i < n
    · have klt : (i : Int) < (n : Int) := by omega
      obtain ⟨b, rfl, hbl, hcs⟩ := hsp.out (by omega)
      have c0 := cell_kept HB.out (hcs i (by rw [Hn.out]; exact hlt)).1
      have c1 := cell_kept HB.out (hcs i (by rw [Hn.out]; exact hlt)).2
      have lb : b < wr.heap.size := by omega
      obtain ⟨⟨r1, r2⟩, r3, r4⟩ := HR.out i hlt
      have hfi := HFi.out i
      have hbd := HBad.out i hlt
      have HPw : Hid (∀ k, PicAt (wr.drewN k) pp 0 ss) := fun k => HP.out.below (HB.out.trans (Joins.below_draws w.heap.size _ _))
      have HBd : ∀ m, Hid (Below w.heap.size w (wr.drewN m)) := fun m => HB.out.trans (Joins.below_draws w.heap.size _ _)
      have HJs : Hid (somP ss xs X Y i = false → ∀ j, j < i + 1 → somP ss xs X Y j = false) := fun h j hj => by
        by_cases e : j = i
        · rw [e]; exact h
        · exact HJ.out j (by omega)
      obtain ⟨q, hq⟩ : ∃ q, somP ss xs X Y i = q := ⟨_, rfl⟩
      rw [hq] at hfi hbd HJs
      obtain ⟨x, hx⟩ : ∃ x, (xs.getD i (0, 0)).1 = x := ⟨_, rfl⟩
      obtain ⟨y, hy⟩ : ∃ y, (xs.getD i (0, 0)).2 = y := ⟨_, rfl⟩
      rw [hx] at c0 hfi r1 r2
      rw [hy] at c1 hfi r3 r4
      have CBi := Lib.hid (CB.out (X - x) (Y - y))
      rw [← hfi] at CBi
      have HBD := Lib.hid hbd
      have e1 : IntKind.i64.wrap (X - x) = X - x := IntWalk.i64_in _ (by omega)
      have e2 : IntKind.i64.wrap (Y - y) = Y - y := IntWalk.i64_in _ (by omega)
      clear hx hy hq hfi hbd hcs HB
      cases q with
      | true =>
        have HRes := Lib.hid (HBD.out rfl)
        go_wp2_with fail
        go_quiet ((go_at_call 59; exact Calls.quiet_of_same ((CBi.out _ (HPw.out _)).mono fun e w' ⟨he, hw⟩ => ⟨he, hw.symm⟩)))
        clear e1 e2
        go_wp2
        go_ret
        exact ⟨ret_bool HRes.out.symm, (HBd _).out⟩
      | false =>
        have HN := Lib.hid (HJs.out rfl)
        go_wp2_with fail
        go_quiet ((go_at_call 59; exact Calls.quiet_of_same ((CBi.out _ (HPw.out _)).mono fun e w' ⟨he, hw⟩ => ⟨he, hw.symm⟩)))
        clear e1 e2
        go_wp2
        go_roundw
        case rel => exact ⟨i + 1, by omega, by go_num, HN.out, (HBd _).out⟩
        case measure => simp [intOf]; omega
    · obtain rfl : i = n := by omega
      have HRes := Lib.hid (HGood.out HJ.out)
      go_wp2
      go_ret
      exact ⟨ret_bool HRes.out.symm, HB.out⟩
end Go.Proofs.YtenbhnfajjknkaaDoor

/- Contracts of single functions, and plain lemmas, on which the exact laws of this seat rest; each holds under the conditions that it states. -/
namespace Go.Proofs.YtenbhnfajjknkaaDoor
set_option linter.unusedVariables false
set_option linter.unusedSimpArgs false
open Go.RowKit

/-! ### a pixel of what an element makes -/
def opnQ (ss : List ByteArray) (xs : List (Int × Int)) (X Y : Int) (i : Nat) : Bool := fitB ss xs (X - (xs.getD i (0, 0)).1) (Y - (xs.getD i (0, 0)).2)
def opnI (ss : List ByteArray) (xs : List (Int × Int)) (X Y : Int) : Bool := (List.range xs.length).any (opnQ ss xs X Y)
def clsQ (ss : List ByteArray) (xs : List (Int × Int)) (X Y : Int) (i : Nat) : Bool := somB ss xs (X + (xs.getD i (0, 0)).1) (Y + (xs.getD i (0, 0)).2)
def clsI (ss : List ByteArray) (xs : List (Int × Int)) (X Y : Int) : Bool := (List.range xs.length).all (clsQ ss xs X Y)
theorem opn_bad {ss : List ByteArray} {xs : List (Int × Int)} {X Y : Int} {i : Nat} (hi : i < xs.length) (h : opnQ ss xs X Y i = true) : opnI ss xs X Y = true :=
  List.any_eq_true.2 ⟨i, List.mem_range.2 hi, h⟩
theorem opn_good {ss : List ByteArray} {xs : List (Int × Int)} {X Y : Int} (h : ∀ i, i < xs.length → opnQ ss xs X Y i = false) : opnI ss xs X Y = false := by
  unfold opnI
  rw [List.any_eq_false]
  intro i hi
  rw [h i (List.mem_range.1 hi)]
  simp
theorem cls_bad {ss : List ByteArray} {xs : List (Int × Int)} {X Y : Int} {i : Nat} (hi : i < xs.length) (h : clsQ ss xs X Y i = false) : clsI ss xs X Y = false := by
  unfold clsI
  rw [List.all_eq_false]
  exact ⟨i, List.mem_range.2 hi, by rw [h]; simp⟩
theorem cls_good {ss : List ByteArray} {xs : List (Int × Int)} {X Y : Int} (h : ∀ i, i < xs.length → clsQ ss xs X Y i = true) : clsI ss xs X Y = true :=
  List.all_eq_true.2 (fun i hi => h i (List.mem_range.1 hi))
theorem opn_pl (ss : List ByteArray) (xs : List (Int × Int)) (X Y : Int) : opnI ss xs X Y = plOpnB (pixI ss) xs X Y := by
  unfold opnI plOpnB
  have : opnQ ss xs X Y = fun i => (fun o : Int × Int => plFitB (pixI ss) xs (X - o.1) (Y - o.2)) (xs.getD i (0, 0)) := funext fun i => fitB_pl ss xs _ _
  rw [this]
  exact any_getD (xs := xs) (fun o : Int × Int => plFitB (pixI ss) xs (X - o.1) (Y - o.2))
theorem cls_pl (ss : List ByteArray) (xs : List (Int × Int)) (X Y : Int) : clsI ss xs X Y = plClsB (pixI ss) xs X Y := by
  unfold clsI plClsB
  have : clsQ ss xs X Y = fun i => (fun o : Int × Int => plSomB (pixI ss) xs (X + o.1) (Y + o.2)) (xs.getD i (0, 0)) := funext fun i => somB_pl ss xs _ _
  rw [this]
  exact all_getD (xs := xs) (fun o : Int × Int => plSomB (pixI ss) xs (X + o.1) (Y + o.2))

set_option maxHeartbeats 2000000 in
set_option maxRecDepth 100000 in
theorem pixel2_any (pp pe : Nat) (ss : List ByteArray) (v : Value) (xs : List (Int × Int)) (X Y : Int) (w : World) (hp : PicAt w pp 0 ss) (he : w.heap[pe]? = some (.cells #[v] 36 (0, 0))) (hv : SlS w v xs) (hN : xs.length ≤ 1048576) (hok : elB xs = true)
    (hX : 0 ≤ X ∧ X ≤ 16) (hY : 0 ≤ Y ∧ Y ≤ 16) : Calls Tryd.prog 97 #[.pointer (some ⟨pp, 0, none⟩), .pointer (some ⟨pe, 0, none⟩), .int .i64 2, .int .i64 X, .int .i64 Y] w (SaysB (opnI ss xs X Y) w) := by
  have hc0 := cell_of_one he
  have hlp := (Array.getElem?_eq_some_iff.1 he).1
  have HR := Lib.hid (elB_range hok)
  have HBad := Lib.hid (fun i => @opn_bad ss xs X Y i)
  have HGood := Lib.hid (@opn_good ss xs X Y)
  have CF : Hid (∀ x y : Int, -4 ≤ x ∧ x ≤ 4 → -4 ≤ y ∧ y ≤ 4 → ∀ W, Below w.heap.size w W → Calls Tryd.prog 58 #[.pointer (some ⟨pp, 0, none⟩), .pointer (some ⟨pe, 0, none⟩), .int .i64 (X - x), .int .i64 (Y - y)] W (SaysB (fitB ss xs (X - x) (Y - y)) W)) := fun x y h1 h2 W hb =>
    l03Fits_any pp pe ss v xs (X - x) (Y - y) W (hp.below hb) ((hb.block _ hlp).trans he) (hv.below hb) hN hok (by omega) (by omega)
  obtain ⟨ao, cap, rfl, hf⟩ := sl_form hv
  obtain ⟨n, hn⟩ : ∃ n, xs.length = n := ⟨_, rfl⟩
  rw [hn] at HR HBad HGood hf hN hc0
  obtain ⟨r, hr⟩ : ∃ r, opnI ss xs X Y = r := ⟨_, rfl⟩
  rw [hr] at HBad HGood
  rw [hr]
  have hsp : Hid (0 < n → ∃ b, ao = some ⟨b, 0, none⟩ ∧ Spots w b xs) := hf
  have Hn := Lib.hid hn
  have HFi : Hid (∀ i, opnQ ss xs X Y i = fitB ss xs (X - (xs.getD i (0, 0)).1) (Y - (xs.getD i (0, 0)).2)) := fun _ => rfl
  clear hp he hv hok hf hn hr
  go_enter Tryd.func97, Tryd.ntmps97
  go_wp2
  go_loopw [11] (fun iv wr => ∃ i : Nat, i ≤ n ∧ iv = .int .i64 i ∧ Hid (∀ j, j < i → opnQ ss xs X Y j = false) ∧ Hid (Below w.heap.size w wr)) (fun iv _ => n - (intOf iv).toNat)
  case atStart => exact ⟨0, Nat.zero_le _, rfl, fun j h => absurd h (Nat.not_lt_zero j), Below.refl _ _⟩
  case round =>
    obtain ⟨i, hi, rfl, HJ, HB⟩ := hrel
    have hs := HB.out.size
    have p0 := cell_kept HB.out hc0
    have lp : pe < wr.heap.size := by omega
    by_cases hlt : i < n
    · have klt : (i : Int) < (n : Int) := by omega
      obtain ⟨b, rfl, hbl, hcs⟩ := hsp.out (by omega)
      have c0 := cell_kept HB.out (hcs i (by rw [Hn.out]; exact hlt)).1
      have c1 := cell_kept HB.out (hcs i (by rw [Hn.out]; exact hlt)).2
      have lb : b < wr.heap.size := by omega
      have hrg := HR.out i hlt
      have hfi := HFi.out i
      have hbd := HBad.out i hlt
      have HJs : Hid (opnQ ss xs X Y i = false → ∀ j, j < i + 1 → opnQ ss xs X Y j = false) := fun h j hj => by
        by_cases e : j = i
        · rw [e]; exact h
        · exact HJ.out j (by omega)
      obtain ⟨q, hq⟩ : ∃ q, opnQ ss xs X Y i = q := ⟨_, rfl⟩
      rw [hq] at hfi hbd HJs
      obtain ⟨x, hx⟩ : ∃ x, (xs.getD i (0, 0)).1 = x := ⟨_, rfl⟩
      obtain ⟨y, hy⟩ : ∃ y, (xs.getD i (0, 0)).2 = y := ⟨_, rfl⟩
      rw [hx] at c0 hfi hrg
      rw [hy] at c1 hfi hrg
      obtain ⟨⟨r1, r2⟩, r3, r4⟩ := hrg
      have CFi := Lib.hid (CF.out x y ⟨r1, r2⟩ ⟨r3, r4⟩)
      rw [← hfi] at CFi
      have HBD := Lib.hid hbd
      have hbA := HB.out.trans ((Joins.below_alloc1 wr (.cells #[.int .i64 x, .int .i64 y] 79)).mono hs)
      have HBA := Lib.hid hbA
      have CFw := Lib.hid (CFi.out _ HBA.out)
      clear hx hy hq hfi hbd hcs hbA CFi
      cases q with
      | true =>
        have HRes := Lib.hid (HBD.out rfl)
        go_wp2_with fail
        refine CFw.out.mono ?_
        rintro e w2 ⟨rfl, hb2⟩
        have HB2 := Lib.hid (HBA.out.trans (hb2.mono HBA.out.size))
        clear hb2
        go_wp2
        go_ret
        exact ⟨ret_bool HRes.out.symm, HB2.out⟩
      | false =>
        have HNx := Lib.hid (HJs.out rfl)
        go_wp2_with fail
        refine CFw.out.mono ?_
        rintro e w2 ⟨rfl, hb2⟩
        have HB2 := Lib.hid (HBA.out.trans (hb2.mono HBA.out.size))
        clear hb2
        go_wp2
        go_roundw
        case rel => exact ⟨i + 1, by omega, by go_num, HNx.out, HB2.out⟩
        case measure => simp [intOf]; omega
    · obtain rfl : i = n := by omega
      have HRes := Lib.hid (HGood.out HJ.out)
      go_wp2
      go_ret
      exact ⟨ret_bool HRes.out.symm, HB.out⟩

set_option maxHeartbeats 2000000 in
set_option maxRecDepth 100000 in
theorem pixel3_any (pp pe : Nat) (ss : List ByteArray) (v : Value) (xs : List (Int × Int)) (X Y : Int) (w : World) (hp : PicAt w pp 0 ss) (he : w.heap[pe]? = some (.cells #[v] 36 (0, 0))) (hv : SlS w v xs) (hN : xs.length ≤ 1048576) (hok : elB xs = true)
    (hX : 0 ≤ X ∧ X ≤ 16) (hY : 0 ≤ Y ∧ Y ≤ 16) : Calls Tryd.prog 97 #[.pointer (some ⟨pp, 0, none⟩), .pointer (some ⟨pe, 0, none⟩), .int .i64 3, .int .i64 X, .int .i64 Y] w (SaysB (clsI ss xs X Y) w) := by
  have hc0 := cell_of_one he
  have hlp := (Array.getElem?_eq_some_iff.1 he).1
  have HR := Lib.hid (elB_range hok)
  have HBad := Lib.hid (fun i => @cls_bad ss xs X Y i)
  have HGood := Lib.hid (@cls_good ss xs X Y)
  have CF : Hid (∀ x y : Int, -4 ≤ x ∧ x ≤ 4 → -4 ≤ y ∧ y ≤ 4 → ∀ W, Below w.heap.size w W → Calls Tryd.prog 110 #[.pointer (some ⟨pp, 0, none⟩), .pointer (some ⟨pe, 0, none⟩), .int .i64 (X + x), .int .i64 (Y + y)] W (SaysB (somB ss xs (X + x) (Y + y)) W)) := fun x y h1 h2 W hb =>
    l03Some_any pp pe ss v xs (X + x) (Y + y) W (hp.below hb) ((hb.block _ hlp).trans he) (hv.below hb) hN hok (by omega) (by omega)
  obtain ⟨ao, cap, rfl, hf⟩ := sl_form hv
  obtain ⟨n, hn⟩ : ∃ n, xs.length = n := ⟨_, rfl⟩
  rw [hn] at HR HBad HGood hf hN hc0
  obtain ⟨r, hr⟩ : ∃ r, clsI ss xs X Y = r := ⟨_, rfl⟩
  rw [hr] at HBad HGood
  rw [hr]
  have hsp : Hid (0 < n → ∃ b, ao = some ⟨b, 0, none⟩ ∧ Spots w b xs) := hf
  have Hn := Lib.hid hn
  have HFi : Hid (∀ i, clsQ ss xs X Y i = somB ss xs (X + (xs.getD i (0, 0)).1) (Y + (xs.getD i (0, 0)).2)) := fun _ => rfl
  clear hp he hv hok hf hn hr
  go_enter Tryd.func97, Tryd.ntmps97
  go_wp2
  go_loopw [11] (fun iv wr => ∃ i : Nat, i ≤ n ∧ iv = .int .i64 i ∧ Hid (∀ j, j < i → clsQ ss xs X Y j = true) ∧ Hid (Below w.heap.size w wr)) (fun iv _ => n - (intOf iv).toNat)
  case atStart => exact ⟨0, Nat.zero_le _, rfl, fun j h => absurd h (Nat.not_lt_zero j), Below.refl _ _⟩
  case round =>
    obtain ⟨i, hi, rfl, HJ, HB⟩ := hrel
    have hs := HB.out.size
    have p0 := cell_kept HB.out hc0
    have lp : pe < wr.heap.size := by omega
    by_cases hlt : i < n
    · have klt : (i : Int) < (n : Int) := by omega
      obtain ⟨b, rfl, hbl, hcs⟩ := hsp.out (by omega)
      have c0 := cell_kept HB.out (hcs i (by rw [Hn.out]; exact hlt)).1
      have c1 := cell_kept HB.out (hcs i (by rw [Hn.out]; exact hlt)).2
      have lb : b < wr.heap.size := by omega
      have hrg := HR.out i hlt
      have hfi := HFi.out i
      have hbd := HBad.out i hlt
      have HJs : Hid (clsQ ss xs X Y i = true → ∀ j, j < i + 1 → clsQ ss xs X Y j = true) := fun h j hj => by
        by_cases e : j = i
        · rw [e]; exact h
        · exact HJ.out j (by omega)
      obtain ⟨q, hq⟩ : ∃ q, clsQ ss xs X Y i = q := ⟨_, rfl⟩
      rw [hq] at hfi hbd HJs
      obtain ⟨x, hx⟩ : ∃ x, (xs.getD i (0, 0)).1 = x := ⟨_, rfl⟩
      obtain ⟨y, hy⟩ : ∃ y, (xs.getD i (0, 0)).2 = y := ⟨_, rfl⟩
      rw [hx] at c0 hfi hrg
      rw [hy] at c1 hfi hrg
      obtain ⟨⟨r1, r2⟩, r3, r4⟩ := hrg
      have CFi := Lib.hid (CF.out x y ⟨r1, r2⟩ ⟨r3, r4⟩)
      rw [← hfi] at CFi
      have HBD := Lib.hid hbd
      have hbA := HB.out.trans ((Joins.below_alloc1 wr (.cells #[.int .i64 x, .int .i64 y] 79)).mono hs)
      have HBA := Lib.hid hbA
      have CFw := Lib.hid (CFi.out _ HBA.out)
      clear hx hy hq hfi hbd hcs hbA CFi
      cases q with
      | false =>
        have HRes := Lib.hid (HBD.out rfl)
        go_wp2_with fail
        refine CFw.out.mono ?_
        rintro e w2 ⟨rfl, hb2⟩
        have HB2 := Lib.hid (HBA.out.trans (hb2.mono HBA.out.size))
        clear hb2
        go_wp2
        go_ret
        exact ⟨ret_bool HRes.out.symm, HB2.out⟩
      | true =>
        have HNx := Lib.hid (HJs.out rfl)
        go_wp2_with fail
        refine CFw.out.mono ?_
        rintro e w2 ⟨rfl, hb2⟩
        have HB2 := Lib.hid (HBA.out.trans (hb2.mono HBA.out.size))
        clear hb2
        go_wp2
        go_roundw
        case rel => exact ⟨i + 1, by omega, by go_num, HNx.out, HB2.out⟩
        case measure => simp [intOf]; omega
    · obtain rfl : i = n := by omega
      have HRes := Lib.hid (HGood.out HJ.out)
      go_wp2
      go_ret
      exact ⟨ret_bool HRes.out.symm, HB.out⟩

set_option maxHeartbeats 1000000 in
set_option maxRecDepth 100000 in
theorem pixel0_any (pp pe : Nat) (ss : List ByteArray) (v : Value) (xs : List (Int × Int)) (X Y : Int) (w : World) (hp : PicAt w pp 0 ss) (he : w.heap[pe]? = some (.cells #[v] 36 (0, 0))) (hv : SlS w v xs) (hN : xs.length ≤ 1048576) (hok : elB xs = true)
    (hX : 0 ≤ X ∧ X ≤ 16) (hY : 0 ≤ Y ∧ Y ≤ 16) : Calls Tryd.prog 97 #[.pointer (some ⟨pp, 0, none⟩), .pointer (some ⟨pe, 0, none⟩), .int .i64 0, .int .i64 X, .int .i64 Y] w (SaysB (somB ss xs X Y) w) := by
  have C := Lib.hid (l03Some_any pp pe ss v xs X Y w hp he hv hN hok (by omega) (by omega))
  obtain ⟨r, hr⟩ : ∃ r, somB ss xs X Y = r := ⟨_, rfl⟩
  rw [hr] at C ⊢
  clear hp he hv hok hr
  go_enter Tryd.func97, Tryd.ntmps97
  go_wp2_with fail
  refine C.out.mono ?_
  rintro e w2 ⟨rfl, hb2⟩
  have HB := Lib.hid hb2
  clear hb2
  go_wp2
  go_ret
  exact ⟨rfl, HB.out⟩

set_option maxHeartbeats 1000000 in
set_option maxRecDepth 100000 in
theorem pixel1_any (pp pe : Nat) (ss : List ByteArray) (v : Value) (xs : List (Int × Int)) (X Y : Int) (w : World) (hp : PicAt w pp 0 ss) (he : w.heap[pe]? = some (.cells #[v] 36 (0, 0))) (hv : SlS w v xs) (hN : xs.length ≤ 1048576) (hok : elB xs = true)
    (hX : 0 ≤ X ∧ X ≤ 16) (hY : 0 ≤ Y ∧ Y ≤ 16) : Calls Tryd.prog 97 #[.pointer (some ⟨pp, 0, none⟩), .pointer (some ⟨pe, 0, none⟩), .int .i64 1, .int .i64 X, .int .i64 Y] w (SaysB (fitB ss xs X Y) w) := by
  have C := Lib.hid (l03Fits_any pp pe ss v xs X Y w hp he hv hN hok (by omega) (by omega))
  obtain ⟨r, hr⟩ : ∃ r, fitB ss xs X Y = r := ⟨_, rfl⟩
  rw [hr] at C ⊢
  clear hp he hv hok hr
  go_enter Tryd.func97, Tryd.ntmps97
  go_wp2_with fail
  refine C.out.mono ?_
  rintro e w2 ⟨rfl, hb2⟩
  have HB := Lib.hid hb2
  clear hb2
  go_wp2
  go_ret
  exact ⟨rfl, HB.out⟩

/-- what an element makes of a pixel -/
def pxB (k : Nat) (ss : List ByteArray) (xs : List (Int × Int)) (X Y : Int) : Bool := if k = 0 then somB ss xs X Y else if k = 1 then fitB ss xs X Y else if k = 2 then opnI ss xs X Y else clsI ss xs X Y
theorem pixel_any (k : Nat) (hk : k < 4) (pp pe : Nat) (ss : List ByteArray) (v : Value) (xs : List (Int × Int)) (X Y : Int) (w : World) (hp : PicAt w pp 0 ss) (he : w.heap[pe]? = some (.cells #[v] 36 (0, 0))) (hv : SlS w v xs) (hN : xs.length ≤ 1048576) (hok : elB xs = true)
    (hX : 0 ≤ X ∧ X ≤ 16) (hY : 0 ≤ Y ∧ Y ≤ 16) : Calls Tryd.prog 97 #[.pointer (some ⟨pp, 0, none⟩), .pointer (some ⟨pe, 0, none⟩), .int .i64 k, .int .i64 X, .int .i64 Y] w (SaysB (pxB k ss xs X Y) w) := by
  rcases (by omega : k = 0 ∨ k = 1 ∨ k = 2 ∨ k = 3) with rfl | rfl | rfl | rfl
  · exact pixel0_any pp pe ss v xs X Y w hp he hv hN hok hX hY
  · exact pixel1_any pp pe ss v xs X Y w hp he hv hN hok hX hY
  · exact pixel2_any pp pe ss v xs X Y w hp he hv hN hok hX hY
  · exact pixel3_any pp pe ss v xs X Y w hp he hv hN hok hX hY
/-- what a plane shows behind a change -/
def chG (k : Nat) (g : Nat → Nat) (xs : List (Int × Int)) : Nat → Nat := if k = 0 then grG g xs else if k = 1 then shG2 g xs else if k = 2 then opG g xs else clG g xs
theorem chG_pix (k : Nat) {ss : List ByteArray} (V : VP ss) (xs : List (Int × Int)) (hE : ElOk xs) (x y : Nat) (hx : x < 16) (hy : y < 16) : plX (chG k (plOf (wordsOf ss) ss.length) xs) y x = pxB k ss xs x y := by
  have hg := plOf_plw (wordsOf ss) ss.length (words_small V)
  have hp : plF (plOf (wordsOf ss) ss.length) = pixI ss := funext fun X => funext fun Y => plOf_pix V X Y
  rw [plX_plF _ x y hx hy]
  unfold chG pxB
  split
  · rw [gr_pix _ hg xs hE x y (decide_eq_true (by omega)), hp, somB_pl]
    rfl
  · split
    · rw [sh_pix _ hg xs hE x y (decide_eq_true (by omega)), hp, fitB_pl]
      rfl
    · split
      · rw [op_pix _ hg xs hE x y hx hy, hp, opn_pl]
      · rw [cl_pix _ hg xs hE x y hx hy, hp, cls_pl]
end Go.Proofs.YtenbhnfajjknkaaDoor
