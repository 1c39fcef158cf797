/- Contracts of single functions, and plain lemmas, on which the exact laws of this seat rest; each holds under the conditions that it states. -/
import Derived.Test.YtakaglbbcaplhaaDoorR4
import Derived.Test.YtakaglbbcaplhaaDoorI1
import Derived.Test.YtakaglbbcaplhaaDoorY4
import Derived.Test.YtakaglbbcaplhaaDoorS3
import Derived.Test.YtakaglbbcaplhaaDoorS0
import Derived.Test.YtakaglbbcaplhaaDoorCc
namespace Go.Proofs.YtakaglbbcaplhaaDoor
set_option linter.unusedVariables false
set_option linter.unusedSimpArgs false
open Go.RowKit

/-- the kind of the quad around a corner -/
def kdP (p : Int → Int → Bool) (x y : Int) : Nat := kdN (p x y) (p (x + -1) y) (p (x + -1) (y + -1)) (p x (y + -1))
/-- how many of the first t quads have a kind -/
def qc (p : Int → Int → Bool) (n j : Nat) : Nat → Nat
  | 0 => 0
  | t + 1 => qc p n j t + (if kdP p ((t % n : Nat) : Int) ((t / n : Nat) : Int) = j then 1 else 0)
theorem qc_le (p : Int → Int → Bool) (n j : Nat) : ∀ t, qc p n j t ≤ t
  | 0 => Nat.le_refl _
  | t + 1 => by have := qc_le p n j t; simp only [qc]; split <;> omega
theorem qc_snoc (p : Int → Int → Bool) (n j y x : Nat) (hx : x < n) : qc p n j (y * n + x + 1) = qc p n j (y * n + x) + (if kdP p (x : Int) (y : Int) = j then 1 else 0) := by
  have h1 : (y * n + x) / n = y := by rw [Nat.mul_comm, Nat.mul_add_div (by omega), Nat.div_eq_of_lt hx, Nat.add_zero]
  have h2 : (y * n + x) % n = x := by rw [Nat.mul_comm, Nat.mul_add_mod, Nat.mod_eq_of_lt hx]
  simp only [qc, h1, h2]
def qL (p : Int → Int → Bool) (n t : Nat) : List Int := [((qc p n 1 t : Nat) : Int), ((qc p n 2 t : Nat) : Int), ((qc p n 3 t : Nat) : Int)]
theorem qL_zero (p : Int → Int → Bool) (n : Nat) : qL p n 0 = [0, 0, 0] := rfl
theorem kdP_le (p : Int → Int → Bool) (x y : Int) : kdP p x y ≤ 3 := kdN_le _ _ _ _
theorem qL_none {p : Int → Int → Bool} {n y x : Nat} (hx : x < n) (h : kdP p (x : Int) (y : Int) = 0) : qL p n (y * n + x + 1) = qL p n (y * n + x) := by
  unfold qL
  rw [qc_snoc _ _ _ _ _ hx, qc_snoc _ _ _ _ _ hx, qc_snoc _ _ _ _ _ hx, h]
  simp
theorem qL_some {p : Int → Int → Bool} {n y x k : Nat} (hx : x < n) (hk : k < 3) (h : kdP p (x : Int) (y : Int) = k + 1) : numsV (qL p n (y * n + x + 1)) = (numsV (qL p n (y * n + x))).set k (.int .i64 (((qc p n (k + 1) (y * n + x) : Nat) : Int) + 1)) := by
  unfold qL
  rw [qc_snoc _ _ _ _ _ hx, qc_snoc _ _ _ _ _ hx, qc_snoc _ _ _ _ _ hx, h]
  rcases (by omega : k = 0 ∨ k = 1 ∨ k = 2) with rfl | rfl | rfl <;> simp [numsV]
theorem qL_at (p : Int → Int → Bool) (n t : Nat) {k : Nat} (hk : k < 3) : (numsV (qL p n t))[k]? = some (.int .i64 ((qc p n (k + 1) t : Nat) : Int)) := by
  rcases (by omega : k = 0 ∨ k = 1 ∨ k = 2) with rfl | rfl | rfl <;> rfl
theorem black_pix {ss : List ByteArray} (V : VP ss) (x y : Int) : blackB (row0 ss).size ss.length (wordsOf ss) x y = pixI ss x y := by
  unfold blackB pixI
  have e : hasB (row0 ss).size ss.length x y = insB (row0 ss).size ss.length x y := by
    unfold hasB insB inB
    rw [Bool.eq_iff_iff]
    simp
    omega
  rw [e]
  cases h : insB (row0 ss).size ss.length x y with
  | false => rfl
  | true =>
    unfold insB inB at h
    simp at h
    obtain ⟨⟨h1, h2⟩, h3, h4⟩ := h
    obtain ⟨i, rfl⟩ := Int.eq_ofNat_of_zero_le h1
    obtain ⟨j, rfl⟩ := Int.eq_ofNat_of_zero_le h3
    simp only [Bool.true_and, Int.toNat_natCast]
    exact words_at V j i (by omega) (by omega)
/-- the three numbers of a picture -/
def qcV (ss : List ByteArray) : List Int := if validB ss = true then qL (pixI ss) ((row0 ss).size + 1) ((ss.length + 1) * ((row0 ss).size + 1)) else []
theorem qcV_len (ss : List ByteArray) : (qcV ss).length ≤ 3 := by
  unfold qcV
  split <;> simp [qL]
end Go.Proofs.YtakaglbbcaplhaaDoor

/- Contracts of single functions, and plain lemmas, on which the exact laws of this seat rest; each holds under the conditions that it states. -/
namespace Go.Proofs.YtakaglbbcaplhaaDoor
set_option linter.unusedVariables false
set_option linter.unusedSimpArgs false
open Go.RowKit Go.Shelf
attribute [local go_sem] Oper.semAt_some

def siI (ss : List ByteArray) (x y : Int) (e8 : Bool) : Bool := validB ss && (pixI ss x y && ringS (rgN (rgV (pixI ss) x y) 8) e8)

theorem pixI_inY (ss : List ByteArray) (x y : Int) (h : pixI ss x y = true) : (0 ≤ x ∧ x < ((row0 ss).size : Nat)) ∧ (0 ≤ y ∧ y < (ss.length : Nat)) := by
  unfold pixI insB inB at h
  simp at h
  omega

set_option maxHeartbeats 4000000 in
set_option maxRecDepth 100000 in
theorem impl_IsSimple (v : Value) (ss : List ByteArray) (x y : Int) (e8 : Bool) (w : World) (hN : ss.length ≤ maxLen) (hz : ∀ s ∈ ss, s.size ≤ maxLen) (hv : Sl w v ss) (he : ErrLen w) (hR : RingP w) :
    Calls Tryd.prog 19 #[.agg #[v], .agg #[.int .i64 x, .int .i64 y], .bool e8] w (SaysB (siI ss x y e8) w) := by
  have hb0 := Joins.below_alloc2 w (.cells #[v] 29) (.cells #[.int .i64 x, .int .i64 y] 31)
  have C := Lib.hid (matrixOf_any v ss ((w.alloc (.cells #[v] 29)).alloc (.cells #[.int .i64 x, .int .i64 y] 31)) hN hz (hv.below hb0) (he.below hb0))
  have hA := heap_alloc2_new w (.cells #[v] 29) (.cells #[.int .i64 x, .int .i64 y] 31)
  have hsz := matC_size ss
  have hone := matC_one ss
  unfold MatOf at C
  have CM : Hid (validB ss = true → (∀ X Y W, Calls Tryd.prog 58 #[.agg (matC ss), .int .i64 X, .int .i64 Y] W (SaysB (pixI ss X Y) W)) ∧ (∀ X Y W, Below w.heap.size w W → -90 ≤ X ∧ X ≤ 90 → -90 ≤ Y ∧ Y ≤ 90 → Calls Tryd.prog 59 #[.agg (matC ss), .agg #[.int .i64 X, .int .i64 Y]] W (fun e w' => e = .returned (.int .u8 ((rgN (rgV (pixI ss) X Y) 8 : Nat) : Int)) ∧ Below W.heap.size W w'))) := fun hok => by
    have V := vp_of hok
    have hpe : blackB (row0 ss).size ss.length (wordsOf ss) = pixI ss := funext fun x => funext fun y => black_pix V x y
    refine ⟨fun X Y W => ?_, fun X Y W hb h1 h2 => ?_⟩
    · have := black_any (matC ss) (row0 ss).size ss.length (wordsOf ss) X Y W (matC_yes hok) V.w16 V.n16 (fun j => words_lt V j)
      rwa [hpe] at this
    · have := ringAt_any (matC ss) (row0 ss).size ss.length (wordsOf ss) X Y W (matC_yes hok) V.w16 V.n16 (fun j => words_lt V j) h1 h2 (hR.below hb)
      rwa [hpe] at this
  obtain ⟨M, hM⟩ : ∃ M, matC ss = M := ⟨_, rfl⟩
  rw [hM] at C hsz hone CM
  have HI : Hid ((Tryd.prog.info? 73).map (·.size) = some M.size) := by show _ = _; rw [hsz]; exact infoM
  have HZ := Lib.hid (zeros_size.trans hsz.symm)
  have HO := Lib.hid hone
  have HA : Hid (∀ W, Below ((w.alloc (.cells #[v] 29)).alloc (.cells #[.int .i64 x, .int .i64 y] 31)).heap.size ((w.alloc (.cells #[v] 29)).alloc (.cells #[.int .i64 x, .int .i64 y] 31)) W → W.cell? ⟨w.heap.size + 1, 0, none⟩ = some (.int .i64 x) ∧ W.cell? ⟨w.heap.size + 1, 1, none⟩ = some (.int .i64 y)) := fun W hb => by
    have h := (hb.block _ (Array.getElem?_eq_some_iff.1 hA).1).trans hA
    exact ⟨by rw [Joins.cell_of_block h]; rfl, by rw [Joins.cell_of_block h]; rfl⟩
  have HB0 := Lib.hid hb0
  have HS : Hid (siI ss x y e8 = (validB ss && (pixI ss x y && ringS (rgN (rgV (pixI ss) x y) 8) e8))) := rfl
  clear hM hsz hone hb0 hv he hR hA
  cases hok : validB ss with
  | false =>
    have hr : Hid (siI ss x y e8 = false) := by show _ = _; rw [HS.out, hok]; rfl
    have HOk := Lib.hid hok
    clear hok CM HS
    go_enter Tryd.func19, Tryd.ntmps19
    go_wp2_with fail
    refine C.out.mono ?_
    rintro e w1 ⟨rfl, hb⟩
    rw [HOk.out]
    have HB := Lib.hid (HB0.out.trans (hb.mono HB0.out.size))
    clear hb
    go_wp2_with (refine wpList_store_row rfl 73 _ _ rfl w1.heap.size M rfl rfl 73 zeros (heap_alloc_last w1 _) HI.out HZ.out HO.out ?_)
    go_ret
    exact ⟨ret_bool (a := false) hr.out.symm, setRow_below (HB.out.alloc HB.out.size _) HB.out.size _⟩
  | true =>
    have HCM := Lib.hid (CM.out hok)
    have HOk := Lib.hid hok
    have hin := fun h => pixI_inY ss x y h
    have V := vp_of hok
    have hn16 := V.n16
    have hw16 := V.w16
    rw [hok, Bool.true_and] at HS
    clear CM hok V
    refine (callsIn_wide (n := 2)).1 ?_
    refine callsIn_of_wp Tryd.func19 rfl trivial ?_ rfl
    simp only [Tryd.ntmps19, List.size_toArray, List.length_cons, List.length_nil, Nat.reduceAdd, Nat.reduceSub, Array.replicate_succ, Array.replicate_zero, List.push_toArray, List.append_toArray, List.nil_append, List.cons_append]
    gi_wp2_with (refine ⟨trivial, ?_⟩; gi_at_call 57; refine (callsIn_wide.2 C.out).mono ?_; rintro e w1 ⟨rfl, hb1⟩; refine Hid.out ?_)
    rw [HOk.out]
    have HB1 := Lib.hid (HB0.out.trans (hb1.mono HB0.out.size))
    have HA1 := Lib.hid (HA.out _ (hb1.alloc hb1.size (.cells M 73)))
    have HM1 : Hid ((w1.alloc (.cells M 73)).heap[w1.heap.size]? = some (.cells M 73 (0, 0))) := heap_alloc_last w1 _
    have HB2 := Lib.hid (HB1.out.alloc HB1.out.size (.cells M 73))
    clear hb1 C HA
    refine Lib.hid ?_
    gi_wp2_with (refine wpListIn_store_new w1 rfl 73 _ _ rfl M rfl rfl 73 zeros HI.out HZ.out HO.out ?_; refine Hid.out ?_)
    obtain ⟨W2, hW2⟩ : ∃ W2, w1.alloc (.cells M 73) = W2 := ⟨_, rfl⟩
    obtain ⟨m0, hm0⟩ : ∃ m, w1.heap.size = m := ⟨_, rfl⟩
    rw [hW2] at HA1 HM1 HB2 ⊢
    rw [hm0] at HM1 ⊢
    have c0 := HA1.out.1
    have c1 := HA1.out.2
    have CBx := Lib.hid (HCM.out.1 x y W2)
    obtain ⟨q, hq⟩ : ∃ q, pixI ss x y = q := ⟨_, rfl⟩
    rw [hq] at CBx HS hin
    clear hW2 hm0 HA1 HB1 hq
    cases q with
    | false =>
      have hr : Hid (siI ss x y e8 = false) := HS.out
      clear HS hin HCM
      refine Lib.hid ?_
      gi_wp2_with (first | (refine wpListIn_load_row_g rfl 73 _ rfl m0 rfl 73 M (0, 0) _ HM1.out Tryd.underlying73 rfl HI.out ?_) | (refine ⟨trivial, ?_⟩; gi_at_call 58; refine (callsIn_wide.2 CBx.out).mono ?_; rintro e w4 ⟨rfl, hb4⟩; refine Hid.out ?_))
      have HB4 := Lib.hid (HB2.out.trans (hb4.mono HB2.out.size))
      clear hb4 c0 c1 CBx
      refine Lib.hid ?_
      gi_wp2
      refine ⟨trivial, ?_⟩
      gi_wp2
      refine ⟨trivial, ?_⟩
      gi_wp2
      first | (go_ret; exact ⟨ret_bool (a := false) hr.out.symm, HB4.out⟩) | (refine bodyPost_ret (results_tmp rfl _ _ _) rfl ⟨ret_bool (a := false) hr.out.symm, HB4.out⟩)
    | true =>
      have hin2 := hin rfl
      have CRx := Lib.hid (fun W h => HCM.out.2 x y W h (by omega) (by omega))
      have hlt : rgN (rgV (pixI ss) x y) 8 < 256 := rgN_lt _ 8
      rw [Bool.true_and] at HS
      obtain ⟨rg, hrg⟩ : ∃ r, rgN (rgV (pixI ss) x y) 8 = r := ⟨_, rfl⟩
      rw [hrg] at CRx HS hlt
      have CSx := Lib.hid (fun W => ringSimple_any rg e8 W hlt)
      rw [← HS.out] at CSx
      clear hin hin2 HCM hrg HS hlt
      refine Lib.hid ?_
      gi_wp2_with (first | (refine wpListIn_load_row_g rfl 73 _ rfl m0 rfl 73 M (0, 0) _ HM1.out Tryd.underlying73 rfl HI.out ?_) | (refine ⟨trivial, ?_⟩; gi_at_call 58; refine (callsIn_wide.2 CBx.out).mono ?_; rintro e w4 ⟨rfl, hb4⟩; refine Hid.out ?_))
      have HB4 := Lib.hid (HB2.out.trans (hb4.mono HB2.out.size))
      have HM4 : Hid (w4.heap[m0]? = some (.cells M 73 (0, 0))) := (hb4.block _ (Array.getElem?_eq_some_iff.1 HM1.out).1).trans HM1.out
      have c4 := cell_kept hb4 c0
      have c5 := cell_kept hb4 c1
      have CR4 := Lib.hid (CRx.out w4 HB4.out)
      clear hb4 c0 c1 CBx HM1 HB2 CRx
      refine Lib.hid ?_
      gi_wp2_with (first | (refine wpListIn_load_row_g rfl 73 _ rfl m0 rfl 73 M (0, 0) _ HM4.out Tryd.underlying73 rfl HI.out ?_) | (refine ⟨trivial, ?_⟩; gi_at_call 59; refine (callsIn_wide.2 CR4.out).mono ?_; rintro e w5 ⟨rfl, hb5⟩; refine Hid.out ?_))
      have HB5 := Lib.hid (HB4.out.trans (hb5.mono HB4.out.size))
      have CS5 := Lib.hid (CSx.out w5)
      clear hb5 c4 c5 CR4 HM4 HB4 CSx
      refine Lib.hid ?_
      gi_wp2_with (refine ⟨trivial, ?_⟩; gi_at_call 60; refine (callsIn_wide.2 CS5.out).mono ?_; rintro e w6 ⟨rfl, hb6⟩; refine Hid.out ?_)
      have HB6 := Lib.hid (HB5.out.trans (hb6.mono HB5.out.size))
      clear hb6 CS5 HB5
      refine Lib.hid ?_
      gi_wp2
      first | (go_ret; exact ⟨rfl, HB6.out⟩) | (refine bodyPost_ret (results_tmp rfl _ _ _) rfl ⟨rfl, HB6.out⟩)
end Go.Proofs.YtakaglbbcaplhaaDoor
