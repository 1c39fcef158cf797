/- Contracts of single functions, and plain lemmas, on which the exact laws of this seat rest; each holds under the conditions that it states. -/
import Derived.Test.YtchcmbgbndccmaaDoorVl
namespace Go.Proofs.YtchcmbgbndccmaaDoor
set_option linter.unusedVariables false
open Go.RowKit

/-- two bools handed back -/
def SaysBB (b ok : Bool) (w : World) (e : Ending) (w' : World) : Prop := e = .returned (.tuple #[.bool b, .bool ok]) ∧ Below w.heap.size w w'

theorem hasB_insB (a b : Nat) (x y : Int) : hasB a b x y = insB a b x y := by
  unfold hasB insB inB
  rw [show decide (x < (a : Int)) = decide (x ≤ (a : Int) - 1) from decide_eq_decide.2 (by omega), show decide (y < (b : Int)) = decide (y ≤ (b : Int) - 1) from decide_eq_decide.2 (by omega)]
  cases decide (0 ≤ x) <;> cases decide (x ≤ (a : Int) - 1) <;> cases decide (0 ≤ y) <;> cases decide (y ≤ (b : Int) - 1) <;> rfl

theorem words_bit {ss : List ByteArray} (V : VP ss) (x y : Int) : blackB (row0 ss).size ss.length (wordsOf ss) x y = pixI ss x y := by
  unfold blackB pixI
  rw [hasB_insB]
  cases h : insB (row0 ss).size ss.length x y with
  | false => rfl
  | true =>
    unfold insB inB at h
    simp only [Bool.and_eq_true, decide_eq_true_eq] at h
    obtain ⟨⟨hx0, hx1⟩, hy0, hy1⟩ := h
    have hy : y.toNat < ss.length := by omega
    rw [Bool.true_and, Bool.true_and]
    unfold wordsOf rowWord
    rw [if_pos hy, wordF_bit]
    rw [(V.rows _ hy).1, show decide (x.toNat < (row0 ss).size) = true from decide_eq_true (by omega), Bool.true_and]

theorem rowWord_lt {s : ByteArray} (h : s.size ≤ 16) : rowWord s < 4294967296 := by
  have h1 := wordF_lt (blackAt s) s.size
  have h2 : 2 ^ s.size ≤ 2 ^ 16 := Nat.pow_le_pow_right (by omega) h
  unfold rowWord
  omega
theorem words_lt {ss : List ByteArray} (V : VP ss) (j : Nat) : wordsOf ss j < 4294967296 := by
  unfold wordsOf
  split
  · rename_i h
    exact rowWord_lt (by rw [(V.rows j h).1]; exact V.w16)
  · omega

theorem ret_bb {a b c d : Bool} (h1 : a = c) (h2 : b = d) : Ending.returned (.tuple #[.bool a, .bool b]) = .returned (.tuple #[.bool c, .bool d]) := by rw [h1, h2]

def pixOk (ss : List ByteArray) (x y : Int) : Bool := validB ss && insB (row0 ss).size ss.length x y
def pixVal (ss : List ByteArray) (x y : Int) : Bool := validB ss && pixI ss x y

theorem spec_PixelAt (v : Value) (ss : List ByteArray) (x y : Int) (w : World) (hN : ss.length ≤ maxLen) (hz : ∀ s ∈ ss, s.size ≤ maxLen) (hv : Sl w v ss) :
    Calls Tryd.prog 24 #[.agg #[v], .int .i64 x, .int .i64 y] w (SaysBB (pixVal ss x y) (pixOk ss x y) w) := by
  have hb0 := Joins.below_alloc1 w (.cells #[v] 27)
  have hc0 : (w.alloc (.cells #[v] 27)).cell? ⟨w.heap.size, 0, none⟩ = some v := by rw [World.cell?_alloc_mark]; rfl
  have C := Lib.hid (l01Is_any w.heap.size 0 v ss (w.alloc (.cells #[v] 27)) hc0 (hv.below hb0) hN hz)
  cases hok : validB ss with
  | false =>
    have e1 : Hid (pixVal ss x y = false) := by show pixVal ss x y = _; unfold pixVal; rw [hok]; rfl
    have e2 : Hid (pixOk ss x y = false) := by show pixOk ss x y = _; unfold pixOk; rw [hok]; rfl
    have HOk := Lib.hid hok
    clear hok hv hc0 hb0
    go_enter Tryd.func24, Tryd.ntmps24
    go_wp2_with fail
    refine C.out.mono ?_
    rintro e w' ⟨rfl, hb⟩
    rw [HOk.out]
    have HB := Lib.hid hb
    clear hb
    go_wp2_with fail
    go_ret2
    exact ⟨ret_bb (a := false) (b := false) e1.out.symm e2.out.symm, (Joins.below_alloc1 w _).trans (HB.out.mono (by simp))⟩
  | true =>
    have hp : Hid (∀ W, Below (w.alloc (.cells #[v] 27)).heap.size (w.alloc (.cells #[v] 27)) W → PicAt W w.heap.size 0 ss) := fun W hb =>
      ⟨hok, v, cell_kept hb hc0, (hv.below hb0).below hb⟩
    have HOk := Lib.hid hok
    cases hin : insB (row0 ss).size ss.length x y with
    | false =>
      have e1 : Hid (pixVal ss x y = false) := by show pixVal ss x y = _; unfold pixVal pixI; rw [hin]; simp
      have e2 : Hid (pixOk ss x y = false) := by show pixOk ss x y = _; unfold pixOk; rw [hin]; simp
      have HIN := Lib.hid hin
      clear hok hv hc0 hb0 hin
      go_enter Tryd.func24, Tryd.ntmps24
      go_wp2_with fail
      refine C.out.mono ?_
      rintro e w' ⟨rfl, hb⟩
      rw [HOk.out]
      have HB := Lib.hid hb
      clear hb
      go_wp2_with fail
      refine (l01Has_any w.heap.size 0 ss x y _ (hp.out _ HB.out)).mono ?_
      rintro e w' ⟨rfl, rfl⟩
      rw [HIN.out]
      go_wp2_with fail
      go_ret2
      exact ⟨ret_bb (a := false) (b := false) e1.out.symm e2.out.symm, (Joins.below_alloc1 w _).trans (HB.out.mono (by simp))⟩
    | true =>
      have e1 : Hid (pixVal ss x y = pixI ss x y) := by show pixVal ss x y = _; unfold pixVal; rw [hok]; rfl
      have e2 : Hid (pixOk ss x y = true) := by show pixOk ss x y = _; unfold pixOk; rw [hin, hok]; rfl
      have HIN := Lib.hid hin
      clear hok hv hc0 hb0 hin
      go_enter Tryd.func24, Tryd.ntmps24
      go_wp2_with fail
      refine C.out.mono ?_
      rintro e w' ⟨rfl, hb⟩
      rw [HOk.out]
      have HB := Lib.hid hb
      clear hb
      go_wp2_with fail
      refine (l01Has_any w.heap.size 0 ss x y _ (hp.out _ HB.out)).mono ?_
      rintro e w' ⟨rfl, rfl⟩
      rw [HIN.out]
      go_wp2_with fail
      refine (l01Black_any w.heap.size 0 ss x y _ (hp.out _ HB.out)).mono ?_
      rintro e w' ⟨rfl, rfl⟩
      go_wp2_with fail
      go_ret2
      exact ⟨ret_bb (b := true) e1.out.symm e2.out.symm, (Joins.below_alloc1 w _).trans (HB.out.mono (by simp))⟩

set_option maxHeartbeats 1000000 in
set_option maxRecDepth 100000 in
theorem impl_PixelAt (v : Value) (ss : List ByteArray) (x y : Int) (w : World) (hN : ss.length ≤ maxLen) (hz : ∀ s ∈ ss, s.size ≤ maxLen) (hv : Sl w v ss) (he : ErrLen w) :
    Calls Tryd.prog 25 #[.agg #[v], .int .i64 x, .int .i64 y] w (SaysBB (pixVal ss x y) (pixOk ss x y) w) := by
  have hb0 := Joins.below_alloc1 w (.cells #[v] 27)
  have C := Lib.hid (matrixOf_any v ss (w.alloc (.cells #[v] 27)) hN hz (hv.below hb0) (he.below hb0))
  have hsz := matC_size ss
  have hone := matC_one ss
  unfold MatOf at C
  have hMM : validB ss = true → matC ss = mat (row0 ss).size ss.length (wordsOf ss) := matC_yes
  obtain ⟨M, hM⟩ : ∃ M, matC ss = M := ⟨_, rfl⟩
  rw [hM] at C hsz hone hMM
  have HI : Hid ((Tryd.prog.info? 71).map (·.size) = some M.size) := by show _ = _; rw [hsz]; exact infoM
  have HZ := Lib.hid (zeros_size.trans hsz.symm)
  have HO := Lib.hid hone
  clear hM hsz hone hb0 hv he
  cases hok : validB ss with
  | false =>
    have e1 : Hid (pixVal ss x y = false) := by show pixVal ss x y = _; unfold pixVal; rw [hok]; rfl
    have e2 : Hid (pixOk ss x y = false) := by show pixOk ss x y = _; unfold pixOk; rw [hok]; rfl
    have HOk := Lib.hid hok
    clear hok hMM
    go_enter Tryd.func25, Tryd.ntmps25
    go_wp2_with fail
    refine C.out.mono ?_
    rintro e w1 ⟨rfl, hb⟩
    rw [HOk.out]
    have HB := Lib.hid hb
    clear hb
    go_wp2_with (refine wpList_store_row rfl 71 _ _ rfl w1.heap.size M rfl rfl 71 zeros (heap_alloc_last w1 _) HI.out HZ.out HO.out ?_)
    go_ret2
    have h1 : Below w.heap.size w w1 := (Joins.below_alloc1 w _).trans (HB.out.mono (by simp))
    exact ⟨ret_bb (a := false) (b := false) e1.out.symm e2.out.symm, setRow_below (h1.alloc h1.size _) h1.size _⟩
  | true =>
    have V := vp_of hok
    have hMM := hMM hok
    have HH : Hid (∀ W, Calls Tryd.prog 63 #[.agg M, .int .i64 x, .int .i64 y] W (SaysB (insB (row0 ss).size ss.length x y) W)) := fun W => by
      have := has_any M (row0 ss).size ss.length (fun j => (wordsOf ss j : Int)) x y W ⟨hMM⟩
      rwa [hasB_insB] at this
    have HBk : Hid (∀ W, Calls Tryd.prog 64 #[.agg M, .int .i64 x, .int .i64 y] W (SaysB (pixI ss x y) W)) := fun W => by
      have := black_any M (row0 ss).size ss.length (wordsOf ss) x y W hMM V.w16 V.n16 (words_lt V)
      rwa [words_bit V] at this
    have HOk := Lib.hid hok
    cases hin : insB (row0 ss).size ss.length x y with
    | false =>
      have e1 : Hid (pixVal ss x y = false) := by show pixVal ss x y = _; unfold pixVal pixI; rw [hin]; simp
      have e2 : Hid (pixOk ss x y = false) := by show pixOk ss x y = _; unfold pixOk; rw [hin]; simp
      rw [hin] at HH
      clear hok hin V hMM
      go_enter Tryd.func25, Tryd.ntmps25
      go_wp2_with fail
      refine C.out.mono ?_
      rintro e w1 ⟨rfl, hb⟩
      rw [HOk.out]
      have HB := Lib.hid hb
      clear hb
      go_wp2_with (first | (refine wpList_store_new w1 rfl 71 _ _ rfl M rfl rfl 71 zeros HI.out HZ.out HO.out ?_) | (refine wpList_load_row_g rfl 71 _ rfl w1.heap.size rfl 71 M (0, 0) _ (heap_alloc_last w1 _) Tryd.underlying71 rfl HI.out ?_))
      refine (HH.out _).mono ?_
      rintro e w2 ⟨rfl, hb2⟩
      have h1 : Below w.heap.size w w1 := (Joins.below_alloc1 w _).trans (HB.out.mono (by simp))
      have HB2 : Hid (Below w.heap.size w w2) := (h1.alloc h1.size _).trans (hb2.mono (by have := h1.size; simp; omega))
      clear hb2 h1
      go_wp2_with fail
      go_ret2
      exact ⟨ret_bb (a := false) (b := false) e1.out.symm e2.out.symm, HB2.out⟩
    | true =>
      have e1 : Hid (pixVal ss x y = pixI ss x y) := by show pixVal ss x y = _; unfold pixVal; rw [hok]; rfl
      have e2 : Hid (pixOk ss x y = true) := by show pixOk ss x y = _; unfold pixOk; rw [hin, hok]; rfl
      rw [hin] at HH
      clear hok hin V hMM
      go_enter Tryd.func25, Tryd.ntmps25
      go_wp2_with fail
      refine C.out.mono ?_
      rintro e w1 ⟨rfl, hb⟩
      rw [HOk.out]
      have HB := Lib.hid hb
      clear hb
      go_wp2_with (first | (refine wpList_store_new w1 rfl 71 _ _ rfl M rfl rfl 71 zeros HI.out HZ.out HO.out ?_) | (refine wpList_load_row_g rfl 71 _ rfl w1.heap.size rfl 71 M (0, 0) _ (heap_alloc_last w1 _) Tryd.underlying71 rfl HI.out ?_))
      refine (HH.out _).mono ?_
      rintro e w2 ⟨rfl, hb2⟩
      have h1 : Below w.heap.size w w1 := (Joins.below_alloc1 w _).trans (HB.out.mono (by simp))
      have HB2 : Hid (Below w.heap.size w w2) := (h1.alloc h1.size _).trans (hb2.mono (by have := h1.size; simp; omega))
      have f2 := (hb2.block w1.heap.size (by simp)).trans (heap_alloc_last w1 (.cells M 71))
      have F2 := Lib.hid f2
      clear hb2 h1 f2
      go_wp2_with (refine wpList_load_row rfl 71 _ rfl w1.heap.size rfl 71 M (0, 0) _ F2.out Tryd.underlying71 rfl HI.out ?_)
      refine (HBk.out _).mono ?_
      rintro e w3 ⟨rfl, hb3⟩
      have HB3 : Hid (Below w.heap.size w w3) := HB2.out.trans (hb3.mono HB2.out.size)
      clear hb3
      go_wp2_with fail
      go_ret2
      exact ⟨ret_bb (b := true) e1.out.symm e2.out.symm, HB3.out⟩

set_option maxHeartbeats 2000000 in
set_option maxRecDepth 100000 in
theorem law_PixelAt (v : Value) (x y : Int) (ss : List ByteArray) (w : World) (hN : ss.length ≤ maxLen) (hz : ∀ s ∈ ss, s.size ≤ maxLen) (hv : Sl w v ss) (he : ErrLen w) :
    Calls Tryd.prog 5 #[.agg #[v], .int .i64 x, .int .i64 y] w fun e w' => e = .returned (.bool true) ∧ Below w.heap.size w w' := by
  have HSL : Hid (∀ W, Below w.heap.size w W → Sl W v ss) := fun W hb => hv.below hb
  have HEL : Hid (∀ W, Below w.heap.size w W → ErrLen W) := fun W hb => he.below hb
  have b0 := Joins.below_alloc1 w (.cells #[v] 24)
  have hc0 : (w.alloc (.cells #[v] 24)).cell? ⟨w.heap.size, 0, none⟩ = some v := by rw [World.cell?_alloc_mark]; rfl
  have C0 := Lib.hid (szPicture_any v ss 1048576 (w.alloc (.cells #[v] 24)) (by omega) (by omega) hN hz (HSL.out _ b0))
  have B0 := Lib.hid b0
  have CS : Hid (∀ u W, Sl W u ss → Calls Tryd.prog 24 #[.agg #[u], .int .i64 x, .int .i64 y] W (SaysBB (pixVal ss x y) (pixOk ss x y) W)) := fun u W hu => spec_PixelAt u ss x y W hN hz hu
  have CI : Hid (∀ u W, Sl W u ss → ErrLen W → Calls Tryd.prog 25 #[.agg #[u], .int .i64 x, .int .i64 y] W (SaysBB (pixVal ss x y) (pixOk ss x y) W)) := fun u W hu hw => impl_PixelAt u ss x y W hN hz hu hw
  obtain ⟨ok, hok⟩ : ∃ b, pixOk ss x y = b := ⟨_, rfl⟩
  obtain ⟨val, hval⟩ : ∃ b, pixVal ss x y = b := ⟨_, rfl⟩
  rw [hok, hval] at CS CI
  clear hv he b0 hok hval
  go_enter Tryd.func5, Tryd.ntmps5
  go_wp2_with fail
  refine C0.out.mono ?_
  rintro e w1 ⟨r, rfl, hr1, hr2, hr3, hb1⟩
  by_cases hr : r < 0
  · have HB1 := Lib.hid hb1
    clear hb1 hr3
    go_wp2_with fail
    go_ret
    exact ⟨rfl, B0.out.trans (HB1.out.mono (by simp))⟩
  · have hsm : ss.length ≤ 1048576 := by have := (hr3 (by omega)).1; omega
    have hc1 := cell_kept hb1 hc0
    have HB1 : Hid (Below w.heap.size w w1) := B0.out.trans (hb1.mono (by simp))
    have l1 : w.heap.size < w1.heap.size := by have := hb1.size; simp at this; omega
    clear hb1 hr3 hr2 hr1 hc0
    go_wp2_with fail
    refine (toPicture_any v ss _ hsm (HSL.out _ HB1.out)).mono ?_
    rintro e w2 ⟨g2, cap2, rfl, hown2, hb2⟩
    have hc2 := cell_kept hb2 hc1
    have HB2 : Hid (Below w.heap.size w w2) := HB1.out.trans (hb2.mono HB1.out.size)
    have l2 : w.heap.size < w2.heap.size := Nat.lt_of_lt_of_le l1 hb2.size
    have HS2 := Lib.hid hown2.sl
    clear hb2 hown2 hc1
    go_wp2_with fail
    refine (CS.out _ _ HS2.out).mono ?_
    rintro e w3 ⟨rfl, hb3⟩
    have hc3 := cell_kept hb3 hc2
    have HB3 : Hid (Below w.heap.size w w3) := HB2.out.trans (hb3.mono HB2.out.size)
    have l3 : w.heap.size < w3.heap.size := Nat.lt_of_lt_of_le l2 hb3.size
    clear hb3 hc2 HS2
    go_wp2_with fail
    refine (toPicture_any v ss _ hsm (HSL.out _ HB3.out)).mono ?_
    rintro e w4 ⟨g4, cap4, rfl, hown4, hb4⟩
    have hc4 := cell_kept hb4 hc3
    have HB4 : Hid (Below w.heap.size w w4) := HB3.out.trans (hb4.mono HB3.out.size)
    have l4 : w.heap.size < w4.heap.size := Nat.lt_of_lt_of_le l3 hb4.size
    have HS4 := Lib.hid hown4.sl
    clear hb4 hown4 hc3
    go_wp2_with fail
    have ba := Joins.below_alloc1 w4 (.cells #[.slice (some ⟨g4, 0, none⟩) ss.length cap4] 27)
    have hx : (w4.alloc (.cells #[.slice (some ⟨g4, 0, none⟩) ss.length cap4] 27)).cell? ⟨w4.heap.size, 0, none⟩ = some (.slice (some ⟨g4, 0, none⟩) ss.length cap4) := by rw [World.cell?_alloc_mark]; rfl
    refine (CI.out _ _ (HS4.out.below ba) (HEL.out _ (HB4.out.trans (ba.mono HB4.out.size)))).mono ?_
    rintro e w5 ⟨rfl, hb5⟩
    have hx5 := cell_kept hb5 hx
    have hc5 := cell_kept hb5 (cell_kept ba hc4)
    have hs5 := HS4.out.below (ba.trans (hb5.mono (by simp)))
    have HB5 : Hid (Below w.heap.size w w5) := (HB4.out.trans (ba.mono HB4.out.size)).trans (hb5.mono (by simp; omega))
    have HX : Hid (∀ W, Below w5.heap.size w5 W → W.cell? ⟨w.heap.size, 0, none⟩ = some v ∧ W.cell? ⟨w4.heap.size, 0, none⟩ = some (.slice (some ⟨g4, 0, none⟩) ss.length cap4)) := fun W hb => ⟨cell_kept hb hc5, cell_kept hb hx5⟩
    have HT : Hid (∀ W, Below w5.heap.size w5 W → Calls Tryd.prog 17 #[.agg #[v]] W (TookPic W ss)) := fun W hb => toPicture_any v ss W hsm (HSL.out _ (HB5.out.trans (hb.mono HB5.out.size)))
    have HE : Hid (∀ W v3, Below w5.heap.size w5 W → Sl W v3 ss → Calls Tryd.prog 19 #[.agg #[.slice (some ⟨g4, 0, none⟩) ss.length cap4], .agg #[v3]] W (SaysB true W)) := fun W v3 hb h3 => by
      have := eqPicture_any _ v3 ss ss W hN hN (hs5.below hb) h3
      rwa [sameL_self] at this
    clear hb5 hx hx5 hc5 hc4 ba hs5 HS4
    go_wp2_with fail
    go_region_held3 (fun w' => w'.cell? ⟨w.heap.size, 0, none⟩ = some v ∧ w'.cell? ⟨w4.heap.size, 0, none⟩ = some (.slice (some ⟨g4, 0, none⟩) ss.length cap4))
      (first | exact HX.out _ (Below.refl _ _) | exact HX.out _ (Below.refl _ _).drew | exact HX.out _ ((Below.refl _ _).drew.trans hb6) | exact HX.out _ (((Below.refl _ _).drew.trans hb6).trans (hb7.mono hb6.size)))
      (first | (go_at_call 17; refine (HT.out _ (Below.refl _ _).drew).mono ?_; rintro e w6 ⟨g6, cap6, rfl, hown6, hb6⟩) | (go_at_call 19; refine (HE.out _ _ ((Below.refl _ _).drew.trans hb6) hown6.sl).mono ?_; rintro e w7 ⟨rfl, hb7⟩))
    have HB7 : Hid (Below w.heap.size w w7) := HB5.out.trans (((Below.refl _ _).drew.trans (hb6.trans (hb7.mono hb6.size))).mono HB5.out.size)
    clear hb6 hb7 hown6
    go_wp2
    go_ret
    exact ⟨rfl, HB7.out⟩
end Go.Proofs.YtchcmbgbndccmaaDoor
