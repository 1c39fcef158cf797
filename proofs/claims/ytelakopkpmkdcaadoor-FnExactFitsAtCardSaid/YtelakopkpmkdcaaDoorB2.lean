/- Contracts of single functions, and plain lemmas, on which the exact laws of this seat rest; each holds under the conditions that it states. -/
import Derived.Test.YtelakopkpmkdcaaDoorAn
import Derived.Test.YtelakopkpmkdcaaDoorSp
import Derived.Test.YtelakopkpmkdcaaDoorPb
namespace Go.Proofs.YtelakopkpmkdcaaDoor
set_option linter.unusedVariables false
set_option linter.unusedSimpArgs false
open Go.RowKit

/-! ### an element that fits -/
def fitP (ss : List ByteArray) (xs : List (Int × Int)) (X Y : Int) (i : Nat) : Bool := pixI ss (X + (xs.getD i (0, 0)).1) (Y + (xs.getD i (0, 0)).2)
def fitB (ss : List ByteArray) (xs : List (Int × Int)) (X Y : Int) : Bool := (List.range xs.length).all (fitP ss xs X Y)
theorem fitB_bad {ss : List ByteArray} {xs : List (Int × Int)} {X Y : Int} {i : Nat} (hi : i < xs.length) (h : fitP ss xs X Y i = false) : fitB ss xs X Y = false := by
  unfold fitB
  rw [List.all_eq_false]
  exact ⟨i, List.mem_range.2 hi, by rw [h]; simp⟩
theorem fitB_good {ss : List ByteArray} {xs : List (Int × Int)} {X Y : Int} (h : ∀ i, i < xs.length → fitP ss xs X Y i = true) : fitB ss xs X Y = true :=
  List.all_eq_true.2 (fun i hi => h i (List.mem_range.1 hi))
theorem elB_range {xs : List (Int × Int)} (h : elB xs = true) (i : Nat) (hi : i < xs.length) : (-4 ≤ (xs.getD i (0, 0)).1 ∧ (xs.getD i (0, 0)).1 ≤ 4) ∧ (-4 ≤ (xs.getD i (0, 0)).2 ∧ (xs.getD i (0, 0)).2 ≤ 4) := by
  unfold elB at h
  rw [Bool.and_eq_true] at h
  have := List.all_eq_true.1 h.1 i (List.mem_range.2 hi)
  unfold stepOk at this
  rw [Bool.and_eq_true] at this
  exact (okO_iff _).1 this.1

set_option maxHeartbeats 2000000 in
set_option maxRecDepth 100000 in
theorem l03Fits_any (pp pe : Nat) (ss : List ByteArray) (v : Value) (xs : List (Int × Int)) (X Y : Int) (w : World) (hp : PicAt w pp 0 ss) (he : w.heap[pe]? = some (.cells #[v] 37 (0, 0))) (hv : SlS w v xs) (hN : xs.length ≤ 1048576) (hok : elB xs = true)
    (hX : -16 ≤ X ∧ X ≤ 32) (hY : -16 ≤ Y ∧ Y ≤ 32) : Calls Tryd.prog 18 #[.pointer (some ⟨pp, 0, none⟩), .pointer (some ⟨pe, 0, none⟩), .int .i64 X, .int .i64 Y] w (SaysB (fitB ss xs X Y) w) := by
  have hc0 := cell_of_one he
  have hlp := (Array.getElem?_eq_some_iff.1 he).1
  have HR := Lib.hid (elB_range hok)
  have HBad := Lib.hid (fun i => @fitB_bad ss xs X Y i)
  have HGood := Lib.hid (@fitB_good ss xs X Y)
  have HFi : Hid (∀ i, fitP ss xs X Y i = pixI ss (X + (xs.getD i (0, 0)).1) (Y + (xs.getD i (0, 0)).2)) := fun _ => rfl
  have HP := Lib.hid hp
  obtain ⟨ao, cap, rfl, hf⟩ := sl_form hv
  have CB : Hid (∀ x y W, PicAt W pp 0 ss → Calls Tryd.prog 31 #[.pointer (some ⟨pp, 0, none⟩), .int .i64 x, .int .i64 y] W fun e w' => e = .returned (.bool (pixI ss x y)) ∧ W = w') := fun x y W h => l01Black_any pp 0 ss x y W h
  obtain ⟨n, hn⟩ : ∃ n, xs.length = n := ⟨_, rfl⟩
  rw [hn] at HR HBad HGood hf hN hc0
  obtain ⟨r, hr⟩ : ∃ r, fitB ss xs X Y = r := ⟨_, rfl⟩
  rw [hr] at HBad HGood
  rw [hr]
  have hsp : Hid (0 < n → ∃ b, ao = some ⟨b, 0, none⟩ ∧ Spots w b xs) := hf
  have Hn := Lib.hid hn
  clear hp he hv hok hf hn hr
  go_enter Tryd.func18, Tryd.ntmps18
  go_wp2
  go_loopw [9] (fun iv wr => ∃ i : Nat, i ≤ n ∧ iv = .int .i64 i ∧ Hid (∀ j, j < i → fitP ss xs X Y j = true) ∧ Hid (Below w.heap.size w wr)) (fun iv _ => n - (intOf iv).toNat)
  case atStart => exact ⟨0, Nat.zero_le _, rfl, fun j h => absurd h (Nat.not_lt_zero j), Below.refl _ _⟩
  case round =>
    obtain ⟨i, hi, rfl, HJ, HB⟩ := hrel
    have hs := HB.out.size
    have p0 := cell_kept HB.out hc0
    have lp : pe < wr.heap.size := by omega
    by_cases hlt : i < n
    · have klt : (i : Int) < (n : Int) := by omega
      obtain ⟨b, rfl, hbl, hcs⟩ := hsp.out (by omega)
      have c0 := cell_kept HB.out (hcs i (by rw [Hn.out]; exact hlt)).1
      have c1 := cell_kept HB.out (hcs i (by rw [Hn.out]; exact hlt)).2
      have lb : b < wr.heap.size := by omega
      obtain ⟨⟨r1, r2⟩, r3, r4⟩ := HR.out i hlt
      have hfi := HFi.out i
      have hbd := HBad.out i hlt
      have HPw : Hid (∀ k, PicAt (wr.drewN k) pp 0 ss) := fun k => HP.out.below (HB.out.trans (Joins.below_draws w.heap.size _ _))
      have HBd : ∀ m, Hid (Below w.heap.size w (wr.drewN m)) := fun m => HB.out.trans (Joins.below_draws w.heap.size _ _)
      have HJs : Hid (fitP ss xs X Y i = true → ∀ j, j < i + 1 → fitP ss xs X Y j = true) := fun h j hj => by
        by_cases e : j = i
        · rw [e]; exact h
        · exact HJ.out j (by omega)
      obtain ⟨q, hq⟩ : ∃ q, fitP ss xs X Y i = q := ⟨_, rfl⟩
      rw [hq] at hfi hbd HJs
      obtain ⟨x, hx⟩ : ∃ x, (xs.getD i (0, 0)).1 = x := ⟨_, rfl⟩
      obtain ⟨y, hy⟩ : ∃ y, (xs.getD i (0, 0)).2 = y := ⟨_, rfl⟩
      rw [hx] at c0 hfi r1 r2
      rw [hy] at c1 hfi r3 r4
      have CBi := Lib.hid (CB.out (X + x) (Y + y))
      rw [← hfi] at CBi
      have HBD := Lib.hid hbd
      have e1 : IntKind.i64.wrap (X + x) = X + x := IntWalk.i64_in _ (by omega)
      have e2 : IntKind.i64.wrap (Y + y) = Y + y := IntWalk.i64_in _ (by omega)
      clear hx hy hq hfi hbd hcs HB
      cases q with
      | true =>
        have HN := Lib.hid (HJs.out rfl)
        go_wp2_with fail
        go_quiet ((go_at_call 31; exact Calls.quiet_of_same ((CBi.out _ (HPw.out _)).mono fun e w' ⟨he, hw⟩ => ⟨he, hw.symm⟩)))
        clear e1 e2
        go_wp2
        go_roundw
        case rel => exact ⟨i + 1, by omega, by go_num, HN.out, (HBd _).out⟩
        case measure => simp [intOf]; omega
      | false =>
        have HRes := Lib.hid (HBD.out rfl)
        go_wp2_with fail
        go_quiet ((go_at_call 31; exact Calls.quiet_of_same ((CBi.out _ (HPw.out _)).mono fun e w' ⟨he, hw⟩ => ⟨he, hw.symm⟩)))
        clear e1 e2
        go_wp2
        go_ret
        exact ⟨ret_bool HRes.out.symm, (HBd _).out⟩
    · obtain rfl : i = n := by omega
      have HRes := Lib.hid (HGood.out HJ.out)
      go_wp2
      go_ret
      exact ⟨ret_bool HRes.out.symm, HB.out⟩
end Go.Proofs.YtelakopkpmkdcaaDoor

/- Contracts of single functions, and plain lemmas, on which the exact laws of this seat rest; each holds under the conditions that it states. -/
namespace Go.Proofs.YtelakopkpmkdcaaDoor
set_option linter.unusedVariables false
set_option linter.unusedSimpArgs false
open Go.RowKit

def fitIn (X Y : Int) : Bool := inB X (-16) 32 && inB Y (-16) 32
def fitV (ss : List ByteArray) (xs : List (Int × Int)) (X Y : Int) : Bool := validB ss && (elB xs && (fitIn X Y && fitB ss xs X Y))

set_option maxHeartbeats 2000000 in
set_option maxRecDepth 100000 in
theorem spec_FitsAt (u v : Value) (ss : List ByteArray) (xs : List (Int × Int)) (X Y : Int) (w : World) (hN : ss.length ≤ maxLen) (hz : ∀ s ∈ ss, s.size ≤ maxLen) (hu : Sl w u ss) (hM : xs.length ≤ 1048576) (hv : SlS w v xs) :
    Calls Tryd.prog 6 #[.agg #[u], .agg #[v], .agg #[.int .i64 X, .int .i64 Y]] w (SaysB (fitV ss xs X Y) w) := by
  have HB3 := Lib.hid (Joins.below_alloc3 w (.cells #[u] 33) (.cells #[v] 37) (.cells #[.int .i64 X, .int .i64 Y] 39))
  have hs3 : (((w.alloc (.cells #[u] 33)).alloc (.cells #[v] 37)).alloc (.cells #[.int .i64 X, .int .i64 Y] 39)).heap.size = w.heap.size + 1 + 1 + 1 := by simp
  have hP : (((w.alloc (.cells #[u] 33)).alloc (.cells #[v] 37)).alloc (.cells #[.int .i64 X, .int .i64 Y] 39)).heap[w.heap.size]? = some (.cells #[u] 33 (0, 0)) := by
    rw [Below.heap_alloc _ _ _ (by simp; omega), Below.heap_alloc _ _ _ (by simp)]; exact heap_alloc_last w _
  have hE : (((w.alloc (.cells #[u] 33)).alloc (.cells #[v] 37)).alloc (.cells #[.int .i64 X, .int .i64 Y] 39)).heap[w.heap.size + 1]? = some (.cells #[v] 37 (0, 0)) := by
    rw [Below.heap_alloc _ _ _ (by simp)]
    have := heap_alloc_last (w.alloc (.cells #[u] 33)) (.cells #[v] 37)
    rwa [World.size_alloc] at this
  have hS : (((w.alloc (.cells #[u] 33)).alloc (.cells #[v] 37)).alloc (.cells #[.int .i64 X, .int .i64 Y] 39)).heap[w.heap.size + 1 + 1]? = some (.cells #[.int .i64 X, .int .i64 Y] 39 (0, 0)) := by
    have := heap_alloc_last ((w.alloc (.cells #[u] 33)).alloc (.cells #[v] 37)) (.cells #[.int .i64 X, .int .i64 Y] 39)
    simpa only [World.size_alloc] using this
  obtain ⟨W3, hW3⟩ : ∃ W3, (((w.alloc (.cells #[u] 33)).alloc (.cells #[v] 37)).alloc (.cells #[.int .i64 X, .int .i64 Y] 39)) = W3 := ⟨_, rfl⟩
  rw [hW3] at HB3 hs3 hP hE hS
  have HW := Lib.hid hW3
  have HP := Lib.hid hP
  have HE := Lib.hid hE
  have HS := Lib.hid hS
  have C1 := Lib.hid (l01Is_any w.heap.size 0 u ss W3 (cell_of_one hP) (hu.below HB3.out) hN hz)
  have C2 := Lib.hid (fun W (hb : Below W3.heap.size W3 W) => l03Is_any (w.heap.size + 1) v xs W ((hb.block _ (by rw [hs3]; omega)).trans HE.out) hM ((hv.below HB3.out).below hb))
  have CX := Lib.hid (fun W => l00In_any X (-16) 32 W)
  have CY := Lib.hid (fun W => l00In_any Y (-16) 32 W)
  have HV : Hid (fitV ss xs X Y = (validB ss && (elB xs && ((inB X (-16) 32 && inB Y (-16) 32) && fitB ss xs X Y)))) := rfl
  have C3 : Hid (validB ss = true → elB xs = true → inB X (-16) 32 = true → inB Y (-16) 32 = true → ∀ W, Below W3.heap.size W3 W → Calls Tryd.prog 18 #[.pointer (some ⟨w.heap.size, 0, none⟩), .pointer (some ⟨w.heap.size + 1, 0, none⟩), .int .i64 X, .int .i64 Y] W (SaysB (fitB ss xs X Y) W)) := fun h1 h2 h3 h4 W hb => by
    unfold inB at h3 h4
    simp at h3 h4
    exact l03Fits_any w.heap.size (w.heap.size + 1) ss v xs X Y W ⟨h1, u, cell_kept hb (cell_of_one HP.out), (hu.below HB3.out).below hb⟩ ((hb.block _ (by rw [hs3]; omega)).trans HE.out) ((hv.below HB3.out).below hb) hM h2 h3 h4
  obtain ⟨res, hres⟩ : ∃ r, fitV ss xs X Y = r := ⟨_, rfl⟩
  rw [hres] at HV ⊢
  clear hW3 hP hE hS hu hv hres
  go_enter Tryd.func6, Tryd.ntmps6
  go_wp2_with (rw [HW.out]; fail)
  rw [HW.out]
  go_wp2_with fail
  refine C1.out.mono ?_
  rintro e w1 ⟨rfl, hb1⟩
  have B1 := Lib.hid hb1
  have W1 := Lib.hid (HB3.out.trans (hb1.mono (by omega)))
  clear hb1
  cases h1 : validB ss with
  | false =>
    rw [h1] at HV
    have HR : Hid (res = false) := HV.out
    go_wp2_with fail
    go_ret
    exact ⟨ret_bool HR.out.symm, W1.out⟩
  | true =>
    rw [h1] at HV C3
    go_wp2_with fail
    refine (C2.out _ B1.out).mono ?_
    rintro e w2 ⟨rfl, hb2⟩
    have B2 := Lib.hid (B1.out.trans (hb2.mono B1.out.size))
    have W2 := Lib.hid (W1.out.trans (hb2.mono W1.out.size))
    clear hb2
    have s0 : w2.cell? ⟨w.heap.size + 1 + 1, 0, none⟩ = some (.int .i64 X) := by
      rw [Joins.cell_of_block ((B2.out.block _ (by omega)).trans HS.out) 0]; rfl
    have s1 : w2.cell? ⟨w.heap.size + 1 + 1, 1, none⟩ = some (.int .i64 Y) := by
      rw [Joins.cell_of_block ((B2.out.block _ (by omega)).trans HS.out) 1]; rfl
    have l2 : w.heap.size + 1 + 1 < w2.heap.size := by have := B2.out.size; omega
    cases h2 : elB xs with
    | false =>
      rw [h2] at HV
      have HR : Hid (res = false) := HV.out
      go_wp2_with fail
      go_ret
      exact ⟨ret_bool HR.out.symm, W2.out⟩
    | true =>
      rw [h2] at HV C3
      go_wp2_with fail
      refine (CX.out _).mono ?_
      rintro e w' ⟨rfl, rfl⟩
      cases h3 : inB X (-16) 32 with
      | false =>
        rw [h3] at HV
        have HR : Hid (res = false) := HV.out
        go_wp2_with fail
        go_ret
        exact ⟨ret_bool HR.out.symm, W2.out⟩
      | true =>
        rw [h3] at HV C3
        go_wp2_with fail
        refine (CY.out _).mono ?_
        rintro e w' ⟨rfl, rfl⟩
        cases h4 : inB Y (-16) 32 with
        | false =>
          rw [h4] at HV
          have HR : Hid (res = false) := HV.out
          go_wp2_with fail
          go_ret
          exact ⟨ret_bool HR.out.symm, W2.out⟩
        | true =>
          rw [h4] at HV C3
          have HR : Hid (res = fitB ss xs X Y) := HV.out
          go_wp2_with fail
          refine (C3.out (by simp) (by simp) (by simp) (by simp) _ B2.out).mono ?_
          rintro e w5 ⟨rfl, hb5⟩
          have W5 := Lib.hid (W2.out.trans (hb5.mono W2.out.size))
          clear hb5
          go_wp2_with fail
          go_ret
          exact ⟨ret_bool HR.out.symm, W5.out⟩
end Go.Proofs.YtelakopkpmkdcaaDoor
