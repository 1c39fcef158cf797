/- Contracts of single functions, and plain lemmas, on which the exact laws of this seat rest; each holds under the conditions that it states. -/
import Derived.Test.YtabkkpifkkgpeaaDoorL5
import Derived.Deep.QuietTactic
import Derived.BigQuiet
import Derived.Test.YtabkkpifkkgpeaaDoorL8
import Derived.Test.YtabkkpifkkgpeaaDoorLt
import Derived.Deep.RegionHeld3
import Derived.Deep.RegionWith
import Derived.StillTailTactics
import Derived.Test.YtabkkpifkkgpeaaDoorPb
import Derived.Test.YtabkkpifkkgpeaaDoorL12
namespace Go.Proofs.YtabkkpifkkgpeaaDoor
set_option linter.unusedVariables false
set_option linter.unusedSimpArgs false
open Go.RowKit

theorem eqI_yes {a b : Int} (h : a = b) : (a == b) = true := beq_iff_eq.2 h
theorem eqI_no {a b : Int} (h : a ≠ b) : (a == b) = false := by simpa using h

end Go.Proofs.YtabkkpifkkgpeaaDoor

/- Contracts of single functions, and plain lemmas, on which the exact laws of this seat rest; each holds under the conditions that it states. -/
namespace Go.Proofs.YtabkkpifkkgpeaaDoor
set_option linter.unusedVariables false
set_option linter.unusedSimpArgs false
open Go.RowKit

def fitIn (X Y : Int) : Bool := inB X (-16) 32 && inB Y (-16) 32
def fitV (ss : List ByteArray) (xs : List (Int × Int)) (X Y : Int) : Bool := validB ss && (elB xs && (fitIn X Y && fitB ss xs X Y))

end Go.Proofs.YtabkkpifkkgpeaaDoor

/- Contracts of single functions, and plain lemmas, on which the exact laws of this seat rest; each holds under the conditions that it states. -/
namespace Go.Proofs.YtabkkpifkkgpeaaDoor
set_option linter.unusedVariables false
set_option linter.unusedSimpArgs false
open Go.RowKit

theorem plus_any (x y a b : Int) (w : World) (h1 : -100 ≤ x ∧ x ≤ 100) (h2 : -100 ≤ y ∧ y ≤ 100) (h3 : -100 ≤ a ∧ a ≤ 100) (h4 : -100 ≤ b ∧ b ≤ 100) :
    Calls Tryd.prog 73 #[.agg #[.int .i64 x, .int .i64 y], .agg #[.int .i64 a, .int .i64 b]] w fun e w' => e = .returned (.agg #[.int .i64 (x + a), .int .i64 (y + b)]) ∧ Below w.heap.size w w' := by
  go_enter Tryd.func73, Tryd.ntmps73
  go_wp2
  exact bodyPost_ret (v := .agg #[.int .i64 (x + a), .int .i64 (y + b)]) (by simp [results, Tryd.results73, go_sem]) rfl ⟨rfl, Joins.below_alloc3 w _ _ _⟩

end Go.Proofs.YtabkkpifkkgpeaaDoor

/- Contracts of single functions, and plain lemmas, on which the exact laws of this seat rest; each holds under the conditions that it states. -/
namespace Go.Proofs.YtabkkpifkkgpeaaDoor
set_option linter.unusedVariables false
set_option linter.unusedSimpArgs false
open Go.RowKit

set_option maxHeartbeats 1000000 in
set_option maxRecDepth 100000 in
/-- the rule that ContainsFunc asks: is there white where an offset leads -/
theorem fit1_any (A B : Nat) (X Y x y : Int) (M : Array Value) (bb : Bool) (w : World) (hA : w.heap[A]? = some (.cells #[.int .i64 X, .int .i64 Y] 29 (0, 0))) (hM : w.heap[B]? = some (.cells M 96 (0, 0))) (hI : (Tryd.prog.info? 96).map (·.size) = some M.size)
    (hX : -16 ≤ X ∧ X ≤ 32) (hY : -16 ≤ Y ∧ Y ≤ 32) (hx : -4 ≤ x ∧ x ≤ 4) (hy : -4 ≤ y ∧ y ≤ 4) (hBk : ∀ W, Calls Tryd.prog 94 #[.agg M, .int .i64 (X + x), .int .i64 (Y + y)] W (SaysB bb W)) :
    Calls Tryd.prog 93 #[.agg #[.int .i64 x, .int .i64 y], .pointer (some ⟨A, 0, none⟩), .pointer (some ⟨B, 0, none⟩)] w (SaysB (!bb) w) := by
  have lA := (Array.getElem?_eq_some_iff.1 hA).1
  have lB := (Array.getElem?_eq_some_iff.1 hM).1
  have a0 : w.cell? ⟨A, 0, none⟩ = some (.int .i64 X) := by rw [Joins.cell_of_block hA 0]; rfl
  have a1 : w.cell? ⟨A, 1, none⟩ = some (.int .i64 Y) := by rw [Joins.cell_of_block hA 1]; rfl
  have CP := Lib.hid (fun W => plus_any X Y x y W (by omega) (by omega) (by omega) (by omega))
  have HBk := Lib.hid hBk
  have HM := Lib.hid hM
  have HB1 := Lib.hid (Joins.below_alloc1 w (.cells #[.int .i64 x, .int .i64 y] 29))
  have HI := Lib.hid hI
  clear hA hBk hM hI
  go_enter Tryd.func93, Tryd.ntmps93
  go_wp2_with fail
  refine (CP.out _).mono ?_
  rintro e w2 ⟨rfl, hb2⟩
  have B2 := Lib.hid (HB1.out.trans (hb2.mono (by simp)))
  have M3 : Hid ((w2.alloc (.cells #[.int .i64 (X + x), .int .i64 (Y + y)] 29)).heap[B]? = some (.cells M 96 (0, 0))) := by
    show _ = _
    rw [Below.heap_alloc _ _ _ (by have := B2.out.size; omega), B2.out.block _ lB]; exact HM.out
  have B3 := Lib.hid (B2.out.alloc B2.out.size (.cells #[.int .i64 (X + x), .int .i64 (Y + y)] 29))
  clear hb2
  go_wp2_with (refine wpList_load_row_g rfl 96 _ rfl B rfl 96 M (0, 0) _ M3.out Tryd.underlying96 rfl HI.out ?_)
  refine (HBk.out _).mono ?_
  rintro e w4 ⟨rfl, hb4⟩
  have B4 := Lib.hid (B3.out.trans (hb4.mono (by have := B2.out.size; simp; omega)))
  clear hb4
  go_wp2_with fail
  go_ret
  exact ⟨rfl, B4.out⟩
end Go.Proofs.YtabkkpifkkgpeaaDoor

/- Contracts of single functions, and plain lemmas, on which the exact laws of this seat rest; each holds under the conditions that it states. -/
namespace Go.Proofs.YtabkkpifkkgpeaaDoor
set_option linter.unusedVariables false
set_option linter.unusedSimpArgs false
open Go.RowKit

/-- is there one that the rule takes -/
def anyF (g : Nat → Bool) (n : Nat) : Bool := (List.range n).any g
theorem anyF_yes {g : Nat → Bool} {n i : Nat} (hi : i < n) (h : g i = true) : anyF g n = true := List.any_eq_true.2 ⟨i, List.mem_range.2 hi, h⟩
theorem anyF_no {g : Nat → Bool} {n : Nat} (h : ∀ i, i < n → g i = false) : anyF g n = false := by
  unfold anyF
  rw [List.any_eq_false]
  intro i hi
  rw [h i (List.mem_range.1 hi)]
  simp

set_option maxHeartbeats 1000000 in
set_option maxRecDepth 100000 in
theorem indexF_any (A B : Nat) (v : Value) (xs : List (Int × Int)) (g : Nat → Bool) (w : World) (hN : xs.length ≤ 1048576) (hv : SlS w v xs)
    (hf : ∀ i W, i < xs.length → Below w.heap.size w W → Calls Tryd.prog 93 #[.agg #[.int .i64 (xs.getD i (0, 0)).1, .int .i64 (xs.getD i (0, 0)).2], .pointer (some ⟨A, 0, none⟩), .pointer (some ⟨B, 0, none⟩)] W (SaysB (g i) W)) :
    Calls Tryd.prog 145 #[v, .func (.func 93) #[] #[.pointer (some ⟨A, 0, none⟩), .pointer (some ⟨B, 0, none⟩)]] w (fun e w' => ∃ r : Int, e = .returned (.int .i64 r) ∧ ((0 ≤ r ∧ anyF g xs.length = true) ∨ (r < 0 ∧ anyF g xs.length = false)) ∧ Below w.heap.size w w') := by
  obtain ⟨ao, cap, rfl, hsp⟩ := sl_form hv
  have HF := Lib.hid hf
  have HSp := Lib.hid hsp
  obtain ⟨n, hn⟩ : ∃ n, xs.length = n := ⟨_, rfl⟩
  have Hn := Lib.hid hn
  rw [hn] at HF HSp hN ⊢
  clear hv hf hsp hn
  go_enter Tryd.func145, Tryd.ntmps145
  go_wp2
  go_loopw [8] (fun iv wr => ∃ i : Nat, i ≤ n ∧ iv = .int .i64 i ∧ Hid (∀ j, j < i → g j = false) ∧ Hid (Below w.heap.size w wr)) (fun iv _ => n - (intOf iv).toNat)
  case atStart => exact ⟨0, Nat.zero_le _, rfl, fun j h => absurd h (Nat.not_lt_zero j), Below.refl _ _⟩
  case round =>
    obtain ⟨i, hi, rfl, HJ, HB⟩ := hrel
    have hs := HB.out.size
    by_cases hlt : i < n
    · have klt : (i : Int) < (n : Int) := by omega
      obtain ⟨b, rfl, hbl, hcs⟩ := HSp.out (by omega)
      have c0 := cell_kept HB.out (hcs i (by rw [Hn.out]; exact hlt)).1
      have c1 := cell_kept HB.out (hcs i (by rw [Hn.out]; exact hlt)).2
      have lb : b < wr.heap.size := by omega
      have C := Lib.hid (HF.out i wr hlt HB.out)
      have HYes := Lib.hid (fun h => @anyF_yes g n i hlt h)
      have HJs : Hid (g i = false → ∀ j, j < i + 1 → g j = false) := fun h j hj => by
        by_cases e : j = i
        · rw [e]; exact h
        · exact HJ.out j (by omega)
      obtain ⟨x, hx⟩ : ∃ x, (xs.getD i (0, 0)).1 = x := ⟨_, rfl⟩
      obtain ⟨y, hy⟩ : ∃ y, (xs.getD i (0, 0)).2 = y := ⟨_, rfl⟩
      obtain ⟨q, hq⟩ : ∃ q, g i = q := ⟨_, rfl⟩
      rw [hx] at c0 C
      rw [hy] at c1 C
      rw [hq] at C HYes HJs
      clear hx hy hq hcs
      cases q with
      | true =>
        have HR := Lib.hid (HYes.out rfl)
        go_wp2_with fail
        refine C.out.mono ?_
        rintro e w2 ⟨rfl, hb2⟩
        have B2 := Lib.hid (HB.out.trans (hb2.mono hs))
        clear hb2
        go_wp2_with fail
        go_ret
        exact ⟨_, rfl, Or.inl ⟨by omega, HR.out⟩, B2.out⟩
      | false =>
        have HN := Lib.hid (HJs.out rfl)
        go_wp2_with fail
        refine C.out.mono ?_
        rintro e w2 ⟨rfl, hb2⟩
        have B2 := Lib.hid (HB.out.trans (hb2.mono hs))
        clear hb2
        go_wp2
        go_roundw
        case rel => exact ⟨i + 1, by omega, by go_num, HN.out, B2.out⟩
        case measure => simp [intOf]; omega
    · obtain rfl : i = n := by omega
      have HR := Lib.hid (anyF_no HJ.out)
      go_wp2
      go_ret
      exact ⟨_, rfl, Or.inr ⟨by omega, HR.out⟩, HB.out⟩

theorem containsF_any (A B : Nat) (v : Value) (xs : List (Int × Int)) (g : Nat → Bool) (w : World) (hN : xs.length ≤ 1048576) (hv : SlS w v xs)
    (hf : ∀ i W, i < xs.length → Below w.heap.size w W → Calls Tryd.prog 93 #[.agg #[.int .i64 (xs.getD i (0, 0)).1, .int .i64 (xs.getD i (0, 0)).2], .pointer (some ⟨A, 0, none⟩), .pointer (some ⟨B, 0, none⟩)] W (SaysB (g i) W)) :
    Calls Tryd.prog 92 #[v, .func (.func 93) #[] #[.pointer (some ⟨A, 0, none⟩), .pointer (some ⟨B, 0, none⟩)]] w (SaysB (anyF g xs.length) w) := by
  have C := Lib.hid (indexF_any A B v xs g w hN hv hf)
  obtain ⟨q, hq⟩ : ∃ q, anyF g xs.length = q := ⟨_, rfl⟩
  rw [hq] at C ⊢
  clear hf hv hq
  go_enter Tryd.func92, Tryd.ntmps92
  go_wp2_with fail
  refine C.out.mono ?_
  rintro e w2 ⟨r, rfl, ⟨hr, rfl⟩ | ⟨hr, rfl⟩, hb⟩
  · have HB := Lib.hid hb
    have k : decide ((0 : Int) ≤ r) = true := decide_eq_true hr
    clear hb
    go_wp2
    go_ret
    exact ⟨ret_bool (by first | rfl | exact k | (symm; exact k)), HB.out⟩
  · have HB := Lib.hid hb
    have k : decide ((0 : Int) ≤ r) = false := decide_eq_false (by omega)
    clear hb
    go_wp2
    go_ret
    exact ⟨ret_bool (by first | rfl | exact k | (symm; exact k)), HB.out⟩
end Go.Proofs.YtabkkpifkkgpeaaDoor

/- Contracts of single functions, and plain lemmas, on which the exact laws of this seat rest; each holds under the conditions that it states. -/
namespace Go.Proofs.YtabkkpifkkgpeaaDoor
set_option linter.unusedVariables false
set_option linter.unusedSimpArgs false
open Go.RowKit

theorem fit_any (ss : List ByteArray) (xs : List (Int × Int)) (X Y : Int) : (!anyF (fun i => !fitP ss xs X Y i) xs.length) = fitB ss xs X Y := by
  unfold anyF fitB
  rw [List.all_eq_not_any_not]

set_option maxHeartbeats 4000000 in
set_option maxRecDepth 100000 in
theorem impl_FitsAt (u v : Value) (ss : List ByteArray) (xs : List (Int × Int)) (X Y : Int) (w : World) (hN : ss.length ≤ maxLen) (hz : ∀ s ∈ ss, s.size ≤ maxLen) (hu : Sl w u ss) (hM : xs.length ≤ 1048576) (hwf : ∀ p ∈ xs, (Lit.int .i64 p.1).wf = true ∧ (Lit.int .i64 p.2).wf = true) (hv : SlS w v xs) (he : ErrLen w) :
    Calls Tryd.prog 27 #[.agg #[u], .agg #[v], .agg #[.int .i64 X, .int .i64 Y]] w (SaysB (fitV ss xs X Y) w) := by
  have HB3 := Lib.hid (Joins.below_alloc3 w (.cells #[u] 42) (.cells #[v] 46) (.cells #[.int .i64 X, .int .i64 Y] 29))
  have hs3 : (((w.alloc (.cells #[u] 42)).alloc (.cells #[v] 46)).alloc (.cells #[.int .i64 X, .int .i64 Y] 29)).heap.size = w.heap.size + 1 + 1 + 1 := by simp
  have hP : (((w.alloc (.cells #[u] 42)).alloc (.cells #[v] 46)).alloc (.cells #[.int .i64 X, .int .i64 Y] 29)).heap[w.heap.size]? = some (.cells #[u] 42 (0, 0)) := by
    rw [Below.heap_alloc _ _ _ (by simp; omega), Below.heap_alloc _ _ _ (by simp)]; exact heap_alloc_last w _
  have hE : (((w.alloc (.cells #[u] 42)).alloc (.cells #[v] 46)).alloc (.cells #[.int .i64 X, .int .i64 Y] 29)).heap[w.heap.size + 1]? = some (.cells #[v] 46 (0, 0)) := by
    rw [Below.heap_alloc _ _ _ (by simp)]
    have := heap_alloc_last (w.alloc (.cells #[u] 42)) (.cells #[v] 46)
    rwa [World.size_alloc] at this
  have hS : (((w.alloc (.cells #[u] 42)).alloc (.cells #[v] 46)).alloc (.cells #[.int .i64 X, .int .i64 Y] 29)).heap[w.heap.size + 1 + 1]? = some (.cells #[.int .i64 X, .int .i64 Y] 29 (0, 0)) := by
    have := heap_alloc_last ((w.alloc (.cells #[u] 42)).alloc (.cells #[v] 46)) (.cells #[.int .i64 X, .int .i64 Y] 29)
    simpa only [World.size_alloc] using this
  obtain ⟨W3, hW3⟩ : ∃ W3, (((w.alloc (.cells #[u] 42)).alloc (.cells #[v] 46)).alloc (.cells #[.int .i64 X, .int .i64 Y] 29)) = W3 := ⟨_, rfl⟩
  rw [hW3] at HB3 hs3 hP hE hS
  have HW := Lib.hid hW3
  have HP := Lib.hid hP
  have HE := Lib.hid hE
  have HS := Lib.hid hS
  have C := Lib.hid (matrixOf_any u ss W3 hN hz (hu.below HB3.out) (he.below HB3.out))
  have hsz := matC_size ss
  have hone := matC_one ss
  unfold MatOf at C
  have hMM : validB ss = true → matC ss = mat (row0 ss).size ss.length (wordsOf ss) := matC_yes
  have HV : Hid (fitV ss xs X Y = (validB ss && (elB xs && ((inB X (-16) 32 && inB Y (-16) 32) && fitB ss xs X Y)))) := rfl
  obtain ⟨M, hMe⟩ : ∃ M, matC ss = M := ⟨_, rfl⟩
  rw [hMe] at C hsz hone hMM
  have HI : Hid ((Tryd.prog.info? 96).map (·.size) = some M.size) := by show _ = _; rw [hsz]; exact infoM
  have HZ := Lib.hid (zeros_size.trans hsz.symm)
  have HO := Lib.hid hone
  have CV := Lib.hid (fun W (hb : Below W3.heap.size W3 W) => impl_ValidElement v xs W hM hwf ((hv.below HB3.out).below hb))
  have HSl := Lib.hid (fun W (hb : Below W3.heap.size W3 W) => (hv.below HB3.out).below hb)
  have CC : Hid (validB ss = true → elB xs = true → -16 ≤ X ∧ X ≤ 32 → -16 ≤ Y ∧ Y ≤ 32 → ∀ B W, Below W3.heap.size W3 W → W.heap[B]? = some (.cells M 96 (0, 0)) → Calls Tryd.prog 92 #[v, .func (.func 93) #[] #[.pointer (some ⟨w.heap.size + 1 + 1, 0, none⟩), .pointer (some ⟨B, 0, none⟩)]] W (SaysB (anyF (fun i => !fitP ss xs X Y i) xs.length) W)) := fun h1 h2 h3 h4 B W hb hB => by
    have V := vp_of h1
    refine containsF_any (w.heap.size + 1 + 1) B v xs _ W hM (HSl.out W hb) fun i W' hi hb' => ?_
    have hr := elB_range h2 i hi
    have hA : W'.heap[w.heap.size + 1 + 1]? = some (.cells #[.int .i64 X, .int .i64 Y] 29 (0, 0)) := (hb'.block _ (by have := hb.size; omega)).trans ((hb.block _ (by omega)).trans HS.out)
    refine fit1_any (w.heap.size + 1 + 1) B X Y _ _ M (fitP ss xs X Y i) W' hA ((hb'.block _ (Array.getElem?_eq_some_iff.1 hB).1).trans hB) HI.out h3 h4 hr.1 hr.2 fun W2 => ?_
    have := black_any M (row0 ss).size ss.length (wordsOf ss) (X + (xs.getD i (0, 0)).1) (Y + (xs.getD i (0, 0)).2) W2 (hMM h1) V.w16 V.n16 (words_lt V)
    rwa [words_bit V] at this
  have HFA := Lib.hid (fit_any ss xs X Y)
  obtain ⟨af, haf⟩ : ∃ a, anyF (fun i => !fitP ss xs X Y i) xs.length = a := ⟨_, rfl⟩
  rw [haf] at CC HFA
  obtain ⟨res, hres⟩ : ∃ r, fitV ss xs X Y = r := ⟨_, rfl⟩
  rw [hres] at HV ⊢
  obtain ⟨ao, cap, rfl, _⟩ := sl_form hv
  clear hW3 hP hE hS hu hv hwf he hMe hsz hone hMM haf hres
  go_enter Tryd.func27, Tryd.ntmps27
  go_wp2_with (rw [HW.out]; fail)
  rw [HW.out]
  go_wp2_with fail
  refine C.out.mono ?_
  rintro e w1 ⟨rfl, hb1⟩
  have B1 := Lib.hid hb1
  have W1 := Lib.hid (HB3.out.trans (hb1.mono (by omega)))
  have hs1 := W1.out.size
  have hs13 := B1.out.size
  have M2 := Lib.hid (heap_alloc_last w1 (.cells M 96))
  have B2 := Lib.hid (B1.out.alloc hs13 (.cells M 96))
  have W2 := Lib.hid (W1.out.alloc hs1 (.cells M 96))
  clear hb1
  cases h1 : validB ss with
  | false =>
    rw [h1] at HV
    have HR : Hid (res = false) := HV.out
    go_wp2_with (refine wpList_store_new w1 rfl 96 _ _ rfl M rfl rfl 96 zeros HI.out HZ.out HO.out ?_)
    go_ret
    exact ⟨ret_bool HR.out.symm, W2.out⟩
  | true =>
    rw [h1] at HV CC
    obtain ⟨W4, hW4⟩ : ∃ W4, w1.alloc (.cells M 96) = W4 := ⟨_, rfl⟩
    rw [hW4] at M2 B2 W2
    have e0 : W4.cell? ⟨w.heap.size + 1, 0, none⟩ = some (.slice ao xs.length cap) := cell_of_one ((B2.out.block _ (by omega)).trans HE.out)
    have l4 : w.heap.size + 1 + 1 < W4.heap.size := by have := B2.out.size; omega
    go_wp2_with (refine wpList_store_new w1 rfl 96 _ _ rfl M rfl rfl 96 zeros HI.out HZ.out HO.out ?_; rw [hW4])
    refine (CV.out _ B2.out).mono ?_
    rintro e w5 ⟨rfl, hb5⟩
    have M5 := Lib.hid ((hb5.block _ (Array.getElem?_eq_some_iff.1 M2.out).1).trans M2.out)
    have B5 := Lib.hid (B2.out.trans (hb5.mono B2.out.size))
    have W5 := Lib.hid (W2.out.trans (hb5.mono W2.out.size))
    have s0 : w5.cell? ⟨w.heap.size + 1 + 1, 0, none⟩ = some (.int .i64 X) := by
      rw [Joins.cell_of_block ((B5.out.block _ (by omega)).trans HS.out) 0]; rfl
    have s1 : w5.cell? ⟨w.heap.size + 1 + 1, 1, none⟩ = some (.int .i64 Y) := by
      rw [Joins.cell_of_block ((B5.out.block _ (by omega)).trans HS.out) 1]; rfl
    have e5 : w5.cell? ⟨w.heap.size + 1, 0, none⟩ = some (.slice ao xs.length cap) := cell_of_one ((B5.out.block _ (by omega)).trans HE.out)
    have l5 : w.heap.size + 1 + 1 < w5.heap.size := by have := B5.out.size; omega
    clear hb5 e0
    cases h2 : elB xs with
    | false =>
      rw [h2] at HV
      have HR : Hid (res = false) := HV.out
      go_wp2_with fail
      go_ret
      exact ⟨ret_bool HR.out.symm, W5.out⟩
    | true =>
      rw [h2] at HV CC
      rcases Int.lt_trichotomy X Y with ho | ho | ho
      · have o1 : X ≤ Y := by omega
        have o2 : ¬ Y ≤ X := by omega
        have o3 : ¬ Y < X := by omega
        by_cases hl : X < -16
        · have HR : Hid (res = false) := by
            show _ = _
            rw [HV.out]
            rw [inB_no (n := X) (a := -16) (b := 32) (by omega)]; rfl
          clear HV CC
          go_wp2_with fail
          go_ret
          exact ⟨ret_bool HR.out.symm, W5.out⟩
        · by_cases hh : 32 < Y
          · have HR : Hid (res = false) := by
              show _ = _
              rw [HV.out]
              rw [inB_no (n := Y) (a := -16) (b := 32) (by omega), Bool.and_false]; rfl
            clear HV CC
            go_wp2_with fail
            go_ret
            exact ⟨ret_bool HR.out.symm, W5.out⟩
          · have HR : Hid (res = !af) := by
              show _ = _
              rw [HV.out, inB_yes (by omega) (by omega), inB_yes (by omega) (by omega), HFA.out]; rfl
            have C9 := Lib.hid (CC.out (by simp) (by simp) ⟨by omega, by omega⟩ ⟨by omega, by omega⟩ _ _ B5.out M5.out)
            clear HV CC
            go_wp2_with fail
            refine C9.out.mono ?_
            rintro e w9 ⟨rfl, hb9⟩
            have W9 := Lib.hid (W5.out.trans (hb9.mono W5.out.size))
            clear hb9
            go_wp2_with fail
            go_ret
            exact ⟨ret_bool HR.out.symm, W9.out⟩
      · subst ho
        by_cases hl : X < -16
        · have HR : Hid (res = false) := by
            show _ = _
            rw [HV.out]
            rw [inB_no (n := X) (a := -16) (b := 32) (by omega)]; rfl
          clear HV CC
          go_wp2_with fail
          go_ret
          exact ⟨ret_bool HR.out.symm, W5.out⟩
        · by_cases hh : 32 < X
          · have HR : Hid (res = false) := by
              show _ = _
              rw [HV.out]
              rw [inB_no (n := X) (a := -16) (b := 32) (by omega)]; rfl
            clear HV CC
            go_wp2_with fail
            go_ret
            exact ⟨ret_bool HR.out.symm, W5.out⟩
          · have HR : Hid (res = !af) := by
              show _ = _
              rw [HV.out, inB_yes (by omega) (by omega), HFA.out]; rfl
            have C9 := Lib.hid (CC.out (by simp) (by simp) ⟨by omega, by omega⟩ ⟨by omega, by omega⟩ _ _ B5.out M5.out)
            clear HV CC
            go_wp2_with fail
            refine C9.out.mono ?_
            rintro e w9 ⟨rfl, hb9⟩
            have W9 := Lib.hid (W5.out.trans (hb9.mono W5.out.size))
            clear hb9
            go_wp2_with fail
            go_ret
            exact ⟨ret_bool HR.out.symm, W9.out⟩
      · have o1 : Y ≤ X := by omega
        have o2 : ¬ X ≤ Y := by omega
        have o3 : ¬ X < Y := by omega
        by_cases hl : Y < -16
        · have HR : Hid (res = false) := by
            show _ = _
            rw [HV.out]
            rw [inB_no (n := Y) (a := -16) (b := 32) (by omega), Bool.and_false]; rfl
          clear HV CC
          go_wp2_with fail
          go_ret
          exact ⟨ret_bool HR.out.symm, W5.out⟩
        · by_cases hh : 32 < X
          · have HR : Hid (res = false) := by
              show _ = _
              rw [HV.out]
              rw [inB_no (n := X) (a := -16) (b := 32) (by omega)]; rfl
            clear HV CC
            go_wp2_with fail
            go_ret
            exact ⟨ret_bool HR.out.symm, W5.out⟩
          · have HR : Hid (res = !af) := by
              show _ = _
              rw [HV.out, inB_yes (by omega) (by omega), inB_yes (by omega) (by omega), HFA.out]; rfl
            have C9 := Lib.hid (CC.out (by simp) (by simp) ⟨by omega, by omega⟩ ⟨by omega, by omega⟩ _ _ B5.out M5.out)
            clear HV CC
            go_wp2_with fail
            refine C9.out.mono ?_
            rintro e w9 ⟨rfl, hb9⟩
            have W9 := Lib.hid (W5.out.trans (hb9.mono W5.out.size))
            clear hb9
            go_wp2_with fail
            go_ret
            exact ⟨ret_bool HR.out.symm, W9.out⟩
end Go.Proofs.YtabkkpifkkgpeaaDoor

/- Contracts of single functions, and plain lemmas, on which the exact laws of this seat rest; each holds under the conditions that it states. -/
namespace Go.Proofs.YtabkkpifkkgpeaaDoor
set_option linter.unusedVariables false
set_option linter.unusedSimpArgs false
open Go.RowKit

theorem built_pl0 : Tryd.prog.built 113 [] = some zerosP := by kernel_rfl
/-- the plane of a picture, if element and picture are ones -/
def plOk (ss : List ByteArray) (xs : List (Int × Int)) : Array Value := if pxOk ss xs then pl (row0 ss).size ss.length (plOf (wordsOf ss) ss.length) else zerosP
theorem plOk_yes {ss : List ByteArray} {xs : List (Int × Int)} (h : pxOk ss xs = true) : plOk ss xs = pl (row0 ss).size ss.length (plOf (wordsOf ss) ss.length) := by unfold plOk; rw [if_pos h]
theorem plOk_no {ss : List ByteArray} {xs : List (Int × Int)} (h : pxOk ss xs = false) : plOk ss xs = zerosP := by unfold plOk; rw [h]; rfl

set_option maxHeartbeats 4000000 in
set_option maxRecDepth 100000 in
theorem planeWith_any (B : Nat) (u v : Value) (ss : List ByteArray) (xs : List (Int × Int)) (w : World) (hN : ss.length ≤ maxLen) (hz : ∀ s ∈ ss, s.size ≤ maxLen) (hu : Sl w u ss) (hM : xs.length ≤ 1048576) (hwf : ∀ p ∈ xs, (Lit.int .i64 p.1).wf = true ∧ (Lit.int .i64 p.2).wf = true) (hv : SlS w v xs) (he : ErrLen w) (hB : w.heap[B]? = some (.cells #[v] 46 (0, 0))) :
    Calls Tryd.prog 82 #[.agg #[u], .slice (some ⟨B, 0, none⟩) 1 1] w fun e w' => e = .returned (.tuple #[.agg (plOk ss xs), .bool (pxOk ss xs)]) ∧ Below w.heap.size w w' := by
  obtain ⟨W0, hW0⟩ : ∃ W0, ((w.alloc (.cells #[u] 42)).alloc (.cells #[.int .i64 0, .int .i64 0, .int .u32 0, .int .u32 0, .int .u32 0, .int .u32 0, .int .u32 0, .int .u32 0, .int .u32 0, .int .u32 0, .int .u32 0, .int .u32 0, .int .u32 0, .int .u32 0, .int .u32 0, .int .u32 0, .int .u32 0, .int .u32 0, .int .u32 0, .int .u32 0, .int .u32 0, .int .u32 0, .int .u32 0, .int .u32 0, .int .u32 0, .int .u32 0] 113)) = W0 := ⟨_, rfl⟩
  have hzP : zerosP = #[.int .i64 0, .int .i64 0, .int .u32 0, .int .u32 0, .int .u32 0, .int .u32 0, .int .u32 0, .int .u32 0, .int .u32 0, .int .u32 0, .int .u32 0, .int .u32 0, .int .u32 0, .int .u32 0, .int .u32 0, .int .u32 0, .int .u32 0, .int .u32 0, .int .u32 0, .int .u32 0, .int .u32 0, .int .u32 0, .int .u32 0, .int .u32 0, .int .u32 0, .int .u32 0] := rfl
  have hw0 : W0.heap.size = w.heap.size + 1 + 1 := by rw [← hW0]; simp
  have hb0 : Below w.heap.size w W0 := by rw [← hW0]; exact Joins.below_alloc2 _ _ _
  have hp0 : W0.heap[w.heap.size]? = some (.cells #[u] 42 (0, 0)) := by
    rw [← hW0, Below.heap_alloc _ _ _ (by simp)]; exact heap_alloc_last w _
  have hr0 : W0.heap[w.heap.size + 1]? = some (.cells zerosP 113 (0, 0)) := by
    rw [← hW0, hzP]
    exact heap_alloc2_new _ _ _
  have C := Lib.hid (matrixOf_any u ss W0 hN hz (hu.below hb0) (he.below hb0))
  have hsz := matC_size ss
  have hone := matC_one ss
  unfold MatOf at C
  have hlB := (Array.getElem?_eq_some_iff.1 hB).1
  have HBe : Hid (∀ W, Below W0.heap.size W0 W → W.heap[B]? = some (.cells #[v] 46 (0, 0))) := fun W hb => (hb.block _ (Nat.lt_of_lt_of_le hlB hb0.size)).trans ((hb0.block _ hlB).trans hB)
  have HR : Hid (∀ W, Below W0.heap.size W0 W → W.heap[w.heap.size + 1]? = some (.cells zerosP 113 (0, 0))) := fun W hb => (hb.block _ (by omega)).trans hr0
  have CV : Hid (∀ W, Below W0.heap.size W0 W → Calls Tryd.prog 25 #[.agg #[v]] W (SaysB (elB xs) W)) := fun W hb => impl_ValidElement v xs W hM hwf ((hv.below hb0).below hb)
  have CP : Hid (validB ss = true → elB xs = true → ∀ W, Calls Tryd.prog 136 #[.agg (matC ss)] W fun e w' => e = .returned (.agg (plOk ss xs)) ∧ Below W.heap.size W w') := fun h1 h2 W => by
    have V := vp_of h1
    rw [matC_yes h1, plOk_yes (by unfold pxOk; rw [h1, h2]; rfl)]
    exact planeOf_any _ _ _ W V.w16 V.n16 (words_small V)
  have HNo : Hid (pxOk ss xs = false → plOk ss xs = zerosP) := plOk_no
  have HOk : Hid (pxOk ss xs = (validB ss && elB xs)) := rfl
  have HQ : Hid ((plOk ss xs).size = 26 ∧ (plOk ss xs).all (·.oneCell') = true) := by
    show _ ∧ _
    unfold plOk; split
    · exact ⟨pl_size _ _ _, pl_one _ _ _⟩
    · exact ⟨rfl, pcells_one _ _ _⟩
  obtain ⟨Q, hQ⟩ : ∃ Q, plOk ss xs = Q := ⟨_, rfl⟩
  rw [hQ] at CP HNo HQ ⊢
  obtain ⟨ok, hok⟩ : ∃ r, pxOk ss xs = r := ⟨_, rfl⟩
  rw [hok] at HNo HOk ⊢
  have HI4 : Hid ((Tryd.prog.info? 113).map (·.size) = some Q.size) := by show _ = _; rw [HQ.out.1]; exact infoPl
  have HI5 : Hid (zerosP.size = Q.size) := by show _ = _; rw [HQ.out.1]; rfl
  have HI6 : Hid (Q.all (·.oneCell') = true) := HQ.out.2
  have HI7 : Hid ((Tryd.prog.info? 113).map (·.size) = some zerosP.size) := infoPl
  have HI8 : Hid (zerosP.all (·.oneCell') = true) := pcells_one _ _ _
  obtain ⟨M, hMe⟩ : ∃ M, matC ss = M := ⟨_, rfl⟩
  rw [hMe] at C hsz hone CP
  have HI : Hid ((Tryd.prog.info? 96).map (·.size) = some M.size) := by show _ = _; rw [hsz]; exact infoM
  have HZ := Lib.hid (zeros_size.trans hsz.symm)
  have HO := Lib.hid hone
  have HW0 := Lib.hid hW0
  have HB0 := Lib.hid hb0
  have HS0 := Lib.hid hw0
  have c0 : W0.cell? ⟨w.heap.size, 0, none⟩ = some u := cell_of_one hp0
  have HBl : Hid (Tryd.prog.built 113 [] = some zerosP) := built_pl0
  obtain ⟨ao, cap, rfl, _⟩ := sl_form hv
  have hvi : ((Value.slice ao xs.length cap).oneCell') = true := rfl
  clear hW0 hzP hb0 hp0 hr0 hu hv hwf he hMe hsz hone hN hz hM hB hlB hQ hok HQ hw0
  go_enter Tryd.func82, Tryd.ntmps82
  go_upto_region 1 with fail
  rw [HW0.out]
  go_wp2_with fail
  refine C.out.mono ?_
  rintro e w1 ⟨rfl, hb1⟩
  have hs1 := hb1.size
  have M2 := Lib.hid (heap_alloc_last w1 (.cells M 96))
  have B2 := Lib.hid (hb1.alloc hs1 (.cells M 96))
  have hl2 : w1.heap.size < (w1.alloc (.cells M 96)).heap.size := by simp
  clear hb1
  obtain ⟨W4, hW4⟩ : ∃ W4, w1.alloc (.cells M 96) = W4 := ⟨_, rfl⟩
  rw [hW4] at M2 B2 hl2
  have HW4 := Lib.hid hW4
  have HBe4 := HBe.out W4 B2.out
  have hcB : W4.cell? ⟨B, 0, none⟩ = some (.slice ao xs.length cap) := cell_of_one HBe4
  clear hW4
  go_upto_region 3 with (refine wpList_store_new w1 rfl 96 _ _ rfl M rfl rfl 96 zeros HI.out HZ.out HO.out ?_; rw [HW4.out])
  have B5 := Lib.hid (B2.out.alloc B2.out.size (.cells #[.slice ao xs.length cap] 46))
  have M5 := Lib.hid (((Below.refl _ _).alloc (Nat.le_refl _) (.cells #[.slice ao xs.length cap] 46)).block _ hl2 |>.trans M2.out)
  have RES : ∀ W, Below W0.heap.size W0 W → w.heap.size + 1 < W.heap.size := fun W hb => by have := hb.size; have := HS0.out; omega
  cases h1 : validB ss with
  | false =>
    rw [h1] at HOk
    have HF : Hid (ok = false) := HOk.out
    have HRr := Lib.hid (HR.out _ B5.out)
    have HBb := Lib.hid (HB0.out.trans (B5.out.mono HB0.out.size))
    have HEq := Lib.hid (HNo.out HF.out)
    clear CP CV HNo HOk HBe HR
    refine wp_loop_rounds 2 ?_; rw [rounds_succ]
    go_wp2_with fail
    rw [rounds_succ]
    go_wp2_with (first | (refine wpList_build_as rfl 113 _ rfl [] zerosP rfl HBl.out ?_) | (refine wpList_store_row rfl 113 _ _ rfl (w.heap.size + 1) zerosP rfl rfl 113 zerosP HRr.out HI7.out rfl HI8.out ?_))
    exact bodyPost_ret (results_cell_tmp Tryd.results82 _ _ (w.heap.size + 1) 113 zerosP (0, 0) _ rfl (setRow_heap _ _ _ _ _ _ HRr.out) Tryd.underlying113 rfl HI7.out) rfl ⟨by rw [HEq.out, HF.out]; rfl, setRow_below HBb.out (by omega) _⟩
  | true =>
    rw [h1] at HOk CP
    refine wp_loop_rounds 2 ?_; rw [rounds_succ]
    go_wp2_with fail
    refine (CV.out _ B5.out).mono ?_
    rintro e w6 ⟨rfl, hb6⟩
    have B6 := Lib.hid (B5.out.trans (hb6.mono B5.out.size))
    have M6 := Lib.hid ((hb6.block _ (Array.getElem?_eq_some_iff.1 M5.out).1).trans M5.out)
    clear hb6
    cases h2 : elB xs with
    | false =>
      rw [h2] at HOk
      have HF : Hid (ok = false) := HOk.out
      have HRr := Lib.hid (HR.out _ B6.out)
      have HBb := Lib.hid (HB0.out.trans (B6.out.mono HB0.out.size))
      have HEq := Lib.hid (HNo.out HF.out)
      clear CP CV HNo HOk HBe HR
      go_wp2_with fail
      rw [rounds_succ]
      go_wp2_with (first | (refine wpList_build_as rfl 113 _ rfl [] zerosP rfl HBl.out ?_) | (refine wpList_store_row rfl 113 _ _ rfl (w.heap.size + 1) zerosP rfl rfl 113 zerosP HRr.out HI7.out rfl HI8.out ?_))
      exact bodyPost_ret (results_cell_tmp Tryd.results82 _ _ (w.heap.size + 1) 113 zerosP (0, 0) _ rfl (setRow_heap _ _ _ _ _ _ HRr.out) Tryd.underlying113 rfl HI7.out) rfl ⟨by rw [HEq.out, HF.out]; rfl, setRow_below HBb.out (by omega) _⟩
    | true =>
      rw [h2] at HOk
      have HT : Hid (ok = true) := HOk.out
      have CPl := Lib.hid (CP.out trivial h2)
      clear CP CV HNo HOk HBe
      go_wp2_with fail
      rw [rounds_succ]
      go_wp2_with (refine wpList_load_row rfl 96 _ rfl w1.heap.size rfl 96 M (0, 0) _ M6.out Tryd.underlying96 rfl HI.out ?_)
      refine (CPl.out _).mono ?_
      rintro e w7 ⟨rfl, hb7⟩
      have B7 := B6.out.trans (hb7.mono B6.out.size)
      have HRr := Lib.hid (HR.out _ B7)
      have HBb := Lib.hid (HB0.out.trans (B7.mono HB0.out.size))
      clear B7 hb7
      go_wp2_with (refine wpList_store_row rfl 113 _ _ rfl (w.heap.size + 1) Q rfl rfl 113 zerosP HRr.out HI4.out HI5.out HI6.out ?_)
      exact bodyPost_ret (results_cell_tmp Tryd.results82 _ _ (w.heap.size + 1) 113 Q (0, 0) _ rfl (setRow_heap _ _ _ _ _ _ HRr.out) Tryd.underlying113 rfl HI4.out) rfl ⟨by rw [HT.out]; rfl, setRow_below HBb.out (by omega) _⟩
end Go.Proofs.YtabkkpifkkgpeaaDoor
