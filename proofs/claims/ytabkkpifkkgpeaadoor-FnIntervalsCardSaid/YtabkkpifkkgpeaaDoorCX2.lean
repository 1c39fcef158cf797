/- Contracts of single functions, and plain lemmas, on which the exact laws of this seat rest; each holds under the conditions that it states. -/
import Derived.Test.YtabkkpifkkgpeaaDoorIs
import Derived.Test.YtabkkpifkkgpeaaDoorCVQ
import Derived.Deep.Slices
import Derived.Deep.MidRow
import Derived.Test.YtabkkpifkkgpeaaDoorCVH
import Derived.Test.YtabkkpifkkgpeaaDoorCX1
import Derived.Test.YtabkkpifkkgpeaaDoorCVE
import Derived.Test.YtabkkpifkkgpeaaDoorCVB
import Derived.Test.YtabkkpifkkgpeaaDoorD5
import Derived.Test.YtabkkpifkkgpeaaDoorDB
namespace Go.Proofs.YtabkkpifkkgpeaaDoor
set_option linter.unusedVariables false
set_option linter.unusedSimpArgs false
open Go.RowKit

/-! ### an argument that is a slice of bytes -/
def SlY (w : World) (v : Value) (ns : List Nat) : Prop :=
  (∃ ao cap, v = .slice ao 0 cap ∧ ns = []) ∨ (∃ b off cap, v = .slice (some ⟨b, off, none⟩) ns.length cap ∧ 0 < ns.length ∧ b < w.heap.size ∧ ∀ i, i < ns.length → w.cell? ⟨b, off + i, none⟩ = some (.int .u8 ((ns.getD i 0 : Nat) : Int)))
theorem SlY.below {w w' : World} {v : Value} {ns : List Nat} (h : SlY w v ns) (hb : Below w.heap.size w w') : SlY w' v ns := by
  rcases h with h | ⟨b, off, cap, h1, h2, h3, h4⟩
  · exact Or.inl h
  · exact Or.inr ⟨b, off, cap, h1, h2, Nat.lt_of_lt_of_le h3 hb.size, fun i hi => (hb.cell (p := ⟨_, _, none⟩) h3).trans (h4 i hi)⟩
theorem SlY.form {w : World} {v : Value} {ns : List Nat} (h : SlY w v ns) : ∃ ao cap, v = .slice ao ns.length cap := by
  rcases h with ⟨ao, cap, rfl, rfl⟩ | ⟨b, off, cap, rfl, _⟩
  · exact ⟨_, _, rfl⟩
  · exact ⟨_, _, rfl⟩

/-! ### the number that a byte chooses -/
def r8F (ns : List Nat) (k n : Int) : Int := if n ≤ 1 ∨ (ns.length : Int) ≤ k then 0 else ((ns.getD k.toNat 0 : Nat) : Int) % n
theorem r8F_lt (ns : List Nat) (k n : Int) (hn : 1 ≤ n) : 0 ≤ r8F ns k n ∧ r8F ns k n < n := by
  unfold r8F
  split
  · omega
  · exact ⟨Int.emod_nonneg _ (by omega), Int.emod_lt_of_pos _ (by omega)⟩

set_option maxHeartbeats 1000000 in
set_option maxRecDepth 100000 in
theorem r8At_any (v : Value) (ns : List Nat) (k : Nat) (n : Int) (w : World) (hs : SlY w v ns) (hby : ∀ i, ns.getD i 0 < 256) (hN : ns.length ≤ maxLen) (hn : 0 ≤ n ∧ n ≤ 1000) (hk : k ≤ 1000) :
    Calls Tryd.prog 10 #[v, .int .i64 (k : Int), .int .i64 n] w (fun e w' => e = .returned (.int .i64 (r8F ns k n)) ∧ w = w') := by
  unfold maxLen at hN
  by_cases h1 : n ≤ 1
  · have e : r8F ns k n = 0 := by unfold r8F; rw [if_pos (Or.inl h1)]
    rw [e]
    obtain ⟨ao, cap, rfl⟩ := hs.form
    clear hs
    go_enter Tryd.func10, Tryd.ntmps10
    go_wp2_with fail
    go_ret
    exact ⟨rfl, rfl⟩
  by_cases h2 : (ns.length : Int) ≤ k
  · have e : r8F ns k n = 0 := by unfold r8F; rw [if_pos (Or.inr h2)]
    rw [e]
    obtain ⟨ao, cap, rfl⟩ := hs.form
    have h3 : ns.length ≤ k := by omega
    clear hs h2
    go_enter Tryd.func10, Tryd.ntmps10
    go_wp2_with fail
    go_ret
    exact ⟨rfl, rfl⟩
  rcases hs with ⟨ao, cap, rfl, rfl⟩ | ⟨b, off, cap, rfl, h0, hb, hc⟩
  · exact absurd (show (([] : List Nat).length : Int) ≤ k by simp) h2
  have hk2 : k < ns.length := by omega
  have hc1 := hc k hk2
  have e : r8F ns k n = ((ns.getD k 0 : Nat) : Int) % n := by unfold r8F; rw [if_neg (by omega), Int.toNat_natCast]
  rw [e]
  obtain ⟨x, hx⟩ : ∃ x, ns.getD k 0 = x := ⟨_, rfl⟩
  have hx2 := hby k
  rw [hx] at hc1 hx2 ⊢
  obtain ⟨N, hNN⟩ : ∃ N, ns.length = N := ⟨_, rfl⟩
  rw [hNN] at hN hk2 ⊢
  clear hc hby e hx hNN h0 h2
  have hnn : ¬ n = 0 := by omega
  have hm : (x : Int).tmod n = (x : Int) % n := Int.tmod_eq_emod_of_nonneg (by omega)
  have hk3 : (k : Int) < N := by omega
  go_enter Tryd.func10, Tryd.ntmps10
  go_wp2_with fail
  go_ret
  exact ⟨rfl, rfl⟩
end Go.Proofs.YtabkkpifkkgpeaaDoor

/- A slice of bytes among the arguments, opened. -/
namespace Go.Proofs.YtabkkpifkkgpeaaDoor
open Go.ChangeShapes Go.WideShapes Go.ChangeAt Go.RowKit Go.Deep Go.WideElems
set_option linter.unusedVariables false
set_option linter.unusedSimpArgs false

theorem bytes_some {w : World} {b off n : Nat} (h : ∀ i, i < n → ∃ x : Nat, x < 256 ∧ w.cell? ⟨b, off + i, none⟩ = some (.int .u8 (x : Int))) :
    ∃ ns : List Nat, ns.length = n ∧ (∀ i, ns.getD i 0 < 256) ∧ ∀ i, i < n → w.cell? ⟨b, off + i, none⟩ = some (.int .u8 ((ns.getD i 0 : Nat) : Int)) := by
  induction n with
  | zero => exact ⟨[], rfl, fun i => by simp, fun i hi => by omega⟩
  | succ n ih =>
    obtain ⟨xs, hl, hb, hx⟩ := ih (fun i hi => h i (by omega))
    obtain ⟨x, hx1, h1⟩ := h n (by omega)
    have hg : ∀ i, (xs ++ [x]).getD i 0 = if i < n then xs.getD i 0 else if i = n then x else 0 := fun i => by
      rw [List.getD_eq_getElem?_getD, List.getD_eq_getElem?_getD]
      by_cases e : i < n
      · rw [if_pos e, List.getElem?_append_left (by omega)]
      · rw [if_neg e, List.getElem?_append_right (by omega), hl]
        by_cases e2 : i = n
        · rw [if_pos e2, e2, Nat.sub_self]; rfl
        · rw [if_neg e2]
          obtain ⟨k, hk⟩ : ∃ k, i - n = k + 1 := ⟨i - n - 1, by omega⟩
          rw [hk]; rfl
    refine ⟨xs ++ [x], by simp [hl], fun i => ?_, fun i hi => ?_⟩
    · rw [hg]
      by_cases e : i < n
      · rw [if_pos e]; exact hb i
      · rw [if_neg e]
        by_cases e2 : i = n
        · rw [if_pos e2]; exact hx1
        · rw [if_neg e2]; decide
    · rw [hg]
      by_cases e : i < n
      · rw [if_pos e]; exact hx i e
      · obtain rfl : i = n := by omega
        rw [if_neg e, if_pos rfl]
        exact h1

set_option maxRecDepth 100000 in
theorem open_bytesY {H : Type} {enc : TypeId × Value → H} {W : World} {v0 : Value} {d : DataW H} {p : List MemPlace} {b0 : Nat} {r : Reach} (hv : Value.okWide Tryd.prog W r b0 22 v0)
    (h : DataW.Trod enc Tryd.prog W 0 (fun _ => true) true 22 v0 d p) : ∃ ns : List Nat, SlY W v0 ns ∧ ns.length ≤ maxLen ∧ ∀ i, ns.getD i 0 < 256 := by
  obtain ⟨a0, l0, c0, rfl⟩ := okWide_slice Tryd.underlying22 hv
  obtain ⟨fuel, hf⟩ := h
  rcases open_slice1 Tryd.underlying22 (by kernel_rfl) hf with ⟨hcs, _⟩ | ⟨a, len, cap, m, n, V, D, Pl, hcs, _, hl, hm, hmm, _, hx⟩
  · simp [Value.cells] at hcs
    obtain ⟨rfl, rfl, rfl⟩ := hcs
    exact ⟨[], Or.inl ⟨none, 0, rfl, rfl⟩, by simp, fun i => by simp⟩
  · simp [Value.cells] at hcs
    obtain ⟨rfl, rfl, rfl⟩ := hcs
    have hm' : m = c0 := by simpa using hmm
    by_cases h0 : l0 = 0
    · subst h0
      exact ⟨[], Or.inl ⟨_, _, rfl, rfl⟩, by simp, fun i => by simp⟩
    · obtain ⟨b, off, spot⟩ := a
      have hc := (hx 0 (by omega)).1
      have hspot : spot = none := by simpa [Addr.add] using World.cell?_spot hc
      subst hspot
      have hblk : b < W.heap.size := blk_lt (o := off) (v := V 0) (by simpa [Addr.add] using hc)
      obtain ⟨xs, hlen, hb, hxs⟩ := bytes_some (w := W) (b := b) (off := off) (n := l0) (fun i hi => by
        obtain ⟨g0, t0⟩ := hx i (by omega)
        obtain ⟨n0, e0, _, hwf⟩ := DataW.trod_int Tryd.underlying5 t0
        simp only [List.cons.injEq, and_true] at e0
        rw [Addr.add_mid] at g0
        have hw2 : 0 ≤ n0 ∧ n0 < 256 := by
          simp only [Lit.wf, IntKind.min, IntKind.max, IntKind.signed, IntKind.bits, Bool.and_eq_true, decide_eq_true_eq] at hwf
          simp at hwf
          omega
        exact ⟨n0.toNat, by omega, by rw [g0, e0, Int.toNat_of_nonneg hw2.1]⟩)
      refine ⟨xs, Or.inr ⟨b, off, c0, by rw [hlen], by omega, hblk, fun i hi => hxs i (by omega)⟩, by omega, hb⟩
end Go.Proofs.YtabkkpifkkgpeaaDoor

/- Contracts of single functions, and plain lemmas, on which the exact laws of this seat rest; each holds under the conditions that it states. -/
namespace Go.Proofs.YtabkkpifkkgpeaaDoor
set_option linter.unusedVariables false
set_option linter.unusedSimpArgs false
open Go.RowKit
attribute [local go_sem] Oper.semAt_some

set_option maxHeartbeats 2000000 in
set_option maxRecDepth 100000 in
theorem long1_yes (pc pn : Nat) (c n : Int) (w : World) (h0 : w.cell? ⟨pc, 0, none⟩ = some (.int .i64 c)) (h1 : w.cell? ⟨pn, 0, none⟩ = some (.int .i64 n)) (hQ : QvP w) (hok : (inB c 0 3 && inB n 0 4) = true) :
    Calls Tryd.prog 47 #[.pointer (some ⟨pc, 0, none⟩), .pointer (some ⟨pn, 0, none⟩)] w (fun e w' => e = .returned (.int .i64 (ljV c n)) ∧ Below w.heap.size w w') := by
  have e1 : ljV c n = mxJ (cvF c.toNat n.toNat) ((cvF c.toNat n.toNat).length - 1) := by unfold ljV; rw [if_pos hok]
  have ht2 : inB c 0 3 = true ∧ inB n 0 4 = true := by simpa using hok
  have CT := Lib.hid (fun W => requiredTour_yes c n W ht2.1 ht2.2)
  obtain ⟨c', n', rfl, rfl, hc4, hn4⟩ := tour_nat hok
  rw [e1]
  simp only [Int.toNat_natCast]
  have CX : Hid (∀ W, Below w.heap.size w W → Calls Tryd.prog 50 #[.agg #[.int .i64 (c' : Int), .int .i64 (n' : Int)]] W (TookSpots W (cvF c' n'))) := fun W hb => spots_made c' n' W hc4 hn4 (hQ.below hb)
  have HSm := cvF_small c' n' hn4
  have hlen := cvF_len c' n'
  have h1p : 1 ≤ 2 ^ n' * 2 ^ n' := Nat.mul_le_mul (Nat.one_le_two_pow) (Nat.one_le_two_pow)
  have h256 : 2 ^ n' * 2 ^ n' ≤ 256 := Nat.mul_le_mul (pow_le16 hn4) (pow_le16 hn4)
  obtain ⟨L, hL⟩ : ∃ L, cvF c' n' = L := ⟨_, rfl⟩
  rw [hL] at CX HSm hlen ⊢
  have CJ : Hid (∀ (g cap : Nat) (W : World), Spots W g L → Calls Tryd.prog 48 #[.slice (some ⟨g, 0, none⟩) L.length cap] W (fun e w' => ∃ v, e = .returned v ∧ OwnN w' W.heap.size v (jl L (L.length - 1)) ∧ Below W.heap.size W w')) := fun g cap W hS => jumps_any g cap L W hS HSm (by omega) (by omega)
  have HMx : Hid (∀ k, mxJ L (k + 1) = max (mxJ L k) (jmp L k)) := fun _ => rfl
  have HM0 : Hid (mxJ L 0 = 0) := rfl
  unfold TookSpots at CX
  obtain ⟨M, hM⟩ : ∃ M, L.length - 1 = M := ⟨_, rfl⟩
  rw [hM] at CJ ⊢
  have M256 : M ≤ 256 := by omega
  have HLm := Lib.hid (jl_len L M)
  have HLa := Lib.hid (fun i (hi : i < M) => jl_at L M i hi)
  clear e1 hok ht2 hc4 hn4 hlen h1p h256 hL HSm hQ hM
  go_enter Tryd.func47, Tryd.ntmps47
  go_wp2_with fail
  refine (CT.out _).mono ?_
  rintro e w1 ⟨rfl, hb1⟩
  have B1 := Lib.hid hb1
  clear hb1 h0 h1
  go_wp2_with fail
  refine (CX.out _ B1.out).mono ?_
  rintro e w2 ⟨g, cap, rfl, hown, hb2⟩
  have HS := Lib.hid (OwnS.spots hown)
  have B2 := Lib.hid (B1.out.trans (hb2.mono B1.out.size))
  clear hown hb2
  go_wp2_with fail
  refine (CJ.out _ _ _ HS.out).mono ?_
  rintro e w3 ⟨v, rfl, hown, hb3⟩
  have B3 := Lib.hid (B2.out.trans (hb3.mono B2.out.size))
  clear hb3
  rcases Joins.ownsRow_forms hown with ⟨rfl, hz⟩ | ⟨r, rc, rfl⟩
  · rw [HLm.out] at hz
    subst hz
    have HV : Hid (mxJ L 0 = 0) := HM0.out
    clear hown CX CJ CT
    go_wp2_with fail
    refine wp_loop_rounds 1 ?_; rw [rounds_succ]
    go_wp2
    go_ret
    exact ⟨ret_int HV.out.symm, B3.out⟩
  · rw [HLm.out]
    have HC : Hid (∀ i, i < M → w3.cell? ⟨r, i, none⟩ = some (.int .i64 (jmp L i))) := fun i hi => by
      have := World.ownsRow.cellAt hown i (by rw [HLm.out]; omega)
      rw [this]
      unfold numsV
      rw [List.getElem?_map]
      have hl : i < (jl L M).length := by rw [HLm.out]; exact hi
      rw [List.getElem?_eq_getElem hl]
      have h2 := HLa.out i hi
      rw [List.getD_eq_getElem?_getD, List.getElem?_eq_getElem hl] at h2
      simp only [Option.getD_some] at h2
      rw [← h2]
      rfl
    clear hown CX CJ CT
    go_wp2_with fail
    go_loopw [3, 12] (fun mv iv wr => ∃ k : Nat, k ≤ M ∧ iv = .int .i64 (k : Int) ∧ mv = .int .i64 (mxJ L k) ∧ w3 = wr) (fun _ iv _ => M - (intOf iv).toNat)
    case atStart => exact ⟨0, Nat.zero_le _, rfl, by rw [HM0.out], rfl⟩
    case round =>
      obtain ⟨k, hk, rfl, rfl, rfl⟩ := hrel
      by_cases hlt : k < M
      · have hc := HC.out k hlt
        have kk : (k : Int) < (M : Int) := by omega
        have kk0 : (0 : Int) ≤ (k : Int) := by omega
        have HMn := Lib.hid (HMx.out k)
        obtain ⟨m, hm⟩ : ∃ z, mxJ L k = z := ⟨_, rfl⟩
        obtain ⟨z, hz⟩ : ∃ z, jmp L k = z := ⟨_, rfl⟩
        rw [hm, hz] at HMn
        rw [hz] at hc
        rw [hm]
        clear hm hz
        go_wp2
        go_roundw
        case rel => exact ⟨k + 1, by omega, by go_num, by first | (rw [HMn.out]; done) | (rw [HMn.out]; congr 1; split <;> omega) | (rw [HMn.out]; congr 1; omega), (by trivial)⟩
        case measure => simp [intOf]; omega
      · obtain rfl : k = M := by omega
        go_wp2
        go_ret
        exact ⟨rfl, B3.out⟩

set_option maxHeartbeats 2000000 in
set_option maxRecDepth 100000 in
theorem long1_no (pc pn : Nat) (c n : Int) (w : World) (h0 : w.cell? ⟨pc, 0, none⟩ = some (.int .i64 c)) (h1 : w.cell? ⟨pn, 0, none⟩ = some (.int .i64 n)) (hr : NoRes w) (hok : (inB c 0 3 && inB n 0 4) = false) :
    Calls Tryd.prog 47 #[.pointer (some ⟨pc, 0, none⟩), .pointer (some ⟨pn, 0, none⟩)] w (fun e w' => (∃ T x, e = .panicked [{ v := .iface T x, recovered := false }]) ∧ Below w.heap.size w w') := by
  have CT := Lib.hid (requiredTour_no c n w hok hr)
  clear hr hok
  go_enter Tryd.func47, Tryd.ntmps47
  go_wp2_with fail
  refine CT.out.mono ?_
  rintro e w1 ⟨⟨T, x, rfl⟩, hb⟩
  have B1 := Lib.hid hb
  clear hb
  go_wp2
  exact ⟨rfl, ⟨T, x, rfl⟩, B1.out⟩

theorem call_Long1 : ∀ args (W : World), (callFunc 47 args).run Tryd.prog W = .ok (.enter 47 args) W := by
  intro args W
  first | (go_simp; done) | (simp [callFunc, go_sem]; done) | kernel_rfl

set_option maxHeartbeats 4000000 in
set_option maxRecDepth 100000 in
theorem impl_LongestJump (c n : Int) (w : World) (hn : NoRes w) (hQ : QvP w) :
    Calls Tryd.prog 11 #[.int .i64 c, .int .i64 n] w (SaysIOk (ljV c n) (inB c 0 3 && inB n 0 4) w) := by
  obtain ⟨W0, hW0⟩ : ∃ W0, ((w.alloc (.cells #[.int .i64 c] 2)).alloc (.cells #[.int .i64 n] 2)) = W0 := ⟨_, rfl⟩
  have b0 : Below w.heap.size w W0 := by rw [← hW0]; exact Joins.below_alloc2 w _ _
  have h0 : W0.heap[w.heap.size]? = some (.cells #[.int .i64 c] 2 (0, 0)) := by
    rw [← hW0, Below.heap_alloc _ _ _ (by simp)]; exact heap_alloc_last w _
  have h1 : W0.heap[w.heap.size + 1]? = some (.cells #[.int .i64 n] 2 (0, 0)) := by
    rw [← hW0]
    exact heap_alloc2_new _ _ _
  have hmf : ∀ (fn : Fn) (first cap : Array Value) (w : World), (Instr.makeFunc fn first cap).run Tryd.prog w = .ok (.func fn first cap) w := fun _ _ _ _ => rfl
  have B0 := Lib.hid b0
  have HW := Lib.hid hW0
  cases hok : (inB c 0 3 && inB n 0 4) with
  | true =>
    have C := Lib.hid (attemptI_yes 47 #[.pointer (some ⟨w.heap.size, 0, none⟩), .pointer (some ⟨w.heap.size + 1, 0, none⟩)] W0 (fun u W w' => u = .int .i64 (ljV c n)) call_Long1 (fun W hb => (long1_yes w.heap.size (w.heap.size + 1) c n W (cell_kept hb (cell_of_one h0)) (cell_kept hb (cell_of_one h1)) ((hQ.below b0).below hb) hok).mono (fun e w' ⟨he, hb⟩ => ⟨_, he, rfl, hb⟩)))
    obtain ⟨d, hd⟩ : ∃ d, ljV c n = d := ⟨_, rfl⟩
    rw [hd] at C ⊢
    clear hn hQ hd hok b0 h0 h1 hW0
    go_enter Tryd.func11, Tryd.ntmps11
    go_upto_region 1 with fail
    rw [HW.out]
    go_wp2_with fail
    refine C.out.mono ?_
    rintro e w1 ⟨r, w2, rfl, hQ, hb, rfl, r1, r2⟩
    obtain rfl : r = d := by injection hQ
    have hs := B0.out.size
    have HB := Lib.hid (((B0.out.trans (hb.mono hs)).setCell (p := ⟨W0.heap.size, 0, none⟩) hs (.int .i64 r)).setCell (p := ⟨W0.heap.size + 1, 0, none⟩) (by show w.heap.size ≤ W0.heap.size + 1; omega) (.bool true))
    clear hQ hb r1 r2
    go_wp2_with fail
    go_ret2
    exact ⟨rfl, HB.out⟩
  | false =>
    have C := Lib.hid (attemptI_no 47 #[.pointer (some ⟨w.heap.size, 0, none⟩), .pointer (some ⟨w.heap.size + 1, 0, none⟩)] W0 call_Long1 (fun W hb => long1_no w.heap.size (w.heap.size + 1) c n W (cell_kept hb (cell_of_one h0)) (cell_kept hb (cell_of_one h1)) ((hn.below b0).below hb) hok))
    have HV : Hid (ljV c n = 0) := by show _ = _; unfold ljV; rw [if_neg (by rw [hok]; decide)]
    rw [HV.out]
    clear hn hQ hok b0 h0 h1 hW0 HV
    go_enter Tryd.func11, Tryd.ntmps11
    go_upto_region 1 with fail
    rw [HW.out]
    go_wp2_with fail
    refine C.out.mono ?_
    rintro e w1 ⟨rfl, hb⟩
    have HB := Lib.hid (B0.out.trans (hb.mono B0.out.size))
    clear hb
    go_wp2_with fail
    go_ret2
    exact ⟨rfl, HB.out⟩

end Go.Proofs.YtabkkpifkkgpeaaDoor

/- Contracts of single functions, and plain lemmas, on which the exact laws of this seat rest; each holds under the conditions that it states. -/
namespace Go.Proofs.YtabkkpifkkgpeaaDoor
set_option linter.unusedVariables false
set_option linter.unusedSimpArgs false
open Go.RowKit
attribute [local go_sem] Oper.semAt_some

theorem r8Long_any (v0 v1 : Value) (ns ms : List Nat) (w : World) (h0 : SlY w v0 ns) (h1 : SlY w v1 ms) : Calls Tryd.prog 9 #[v0, v1] w (fun e w' => e = .returned (.bool (decide (48 < ns.length) || decide (48 < ms.length))) ∧ w = w') := by
  obtain ⟨ao, cap, rfl⟩ := h0.form
  obtain ⟨ao1, cap1, rfl⟩ := h1.form
  clear h0 h1
  by_cases h : 48 < ns.length
  · rw [decide_eq_true h, Bool.true_or]
    go_enter Tryd.func9, Tryd.ntmps9
    go_wp2_with fail
    go_ret
    exact ⟨rfl, rfl⟩
  · rw [decide_eq_false h, Bool.false_or]
    go_enter Tryd.func9, Tryd.ntmps9
    go_wp2_with fail
    go_ret
    exact ⟨ret_bool (by rw [decide_eq_false (show ¬ (48 : Int) < (ns.length : Int) by omega), Bool.false_or]; exact decide_eq_decide.2 (by omega)), rfl⟩

set_option maxHeartbeats 4000000 in
set_option maxRecDepth 100000 in
theorem law_FnCurves (v0 v1 : Value) (ns ms : List Nat) (w : World) (hv0 : SlY w v0 ns) (hv1 : SlY w v1 ms) (hby : ∀ i, ns.getD i 0 < 256) (hN : NoRes w) (hQ : QvP w) :
    Calls Tryd.prog 3 #[v0, v1] w fun e w' => e = .returned (.bool true) ∧ Below w.heap.size w w' := by
  have CL := Lib.hid (r8Long_any v0 v1 ns ms w hv0 hv1)
  cases hl : (decide (48 < ns.length) || decide (48 < ms.length)) with
  | true =>
    rw [hl] at CL
    obtain ⟨ao, cap, rfl⟩ := hv0.form
    obtain ⟨ao1, cap1, rfl⟩ := hv1.form
    clear hv0 hv1 hN hQ hl
    go_enter Tryd.func3, Tryd.ntmps3
    go_wp2_with fail
    refine CL.out.mono ?_
    rintro e w' ⟨rfl, rfl⟩
    go_wp2_with fail
    go_ret
    exact ⟨rfl, Below.refl _ _⟩
  | false =>
    rw [hl] at CL
    have hl2 : ns.length ≤ 48 := by simp at hl; omega
    have CA0 := Lib.hid (r8At_any v0 ns 0 4 w hv0 hby (by unfold maxLen; omega) (by omega) (by omega))
    have CA1 := Lib.hid (r8At_any v0 ns 1 5 w hv0 hby (by unfold maxLen; omega) (by omega) (by omega))
    have hc := r8F_lt ns 0 4 (by omega)
    have ho := r8F_lt ns 1 5 (by omega)
    obtain ⟨c, hcc⟩ : ∃ c, r8F ns 0 4 = c := ⟨_, rfl⟩
    obtain ⟨o, hoo⟩ : ∃ c, r8F ns 1 5 = c := ⟨_, rfl⟩
    rw [hcc] at hc
    rw [hoo] at ho
    have CA0' : Hid (Calls Tryd.prog 10 #[v0, .int .i64 0, .int .i64 4] w (fun e w' => e = .returned (.int .i64 c) ∧ w = w')) := by rw [← hcc]; exact CA0
    have CA1' : Hid (Calls Tryd.prog 10 #[v0, .int .i64 1, .int .i64 5] w (fun e w' => e = .returned (.int .i64 o) ∧ w = w')) := by rw [← hoo]; exact CA1
    obtain ⟨ao, cap, rfl⟩ := hv0.form
    obtain ⟨ao1, cap1, rfl⟩ := hv1.form
    clear CA0 CA1 hcc hoo hl hl2 hv0 hv1 hby
    -- both are numbers
    have ht : (inB c 0 3 && inB o 0 4) = true := by unfold inB; rw [decide_eq_true (by omega), decide_eq_true (by omega), decide_eq_true (by omega), decide_eq_true (by omega)]; rfl
    have c4 : c.toNat < 4 := by omega
    have o5 : o.toNat < 5 := by omega
    have ks1 := sd_wrap (n := o) (by omega) (by omega)
    have ks2 := sd_wrap2 (n := o) (by omega) (by omega)
    have hsp : sd o = ((2 ^ o.toNat : Nat) : Int) := by unfold sd; exact (Int.natCast_pow 2 _).symm
    have h16 := pow_le16 (n := o.toNat) (by omega)
    have h1p : 1 ≤ 2 ^ o.toNat := Nat.one_le_two_pow
    have hlen := cvF_len c.toNat o.toNat
    have HSA : ∀ i W, Below w.heap.size w W → Calls Tryd.prog 12 #[.int .i64 c, .int .i64 o, .int .i64 i] W (SaysSOk (saV c o i) (saOk c o i) W) := fun i W hb => impl_SpotAt c o i W (hN.below hb) (hQ.below hb)
    have HIx : ∀ x y W, Below w.heap.size w W → Calls Tryd.prog 13 #[.int .i64 c, .int .i64 o, .int .i64 x, .int .i64 y] W (SaysIOk (ixV c o x y) (ixOk c o x y) W) := fun x y W hb => impl_IndexOf c o x y W (hN.below hb) (hQ.below hb)
    have HLJ : Hid (∀ W, Below w.heap.size w W → Calls Tryd.prog 11 #[.int .i64 c, .int .i64 o] W (SaysIOk (mxJ (cvF c.toNat o.toNat) ((cvF c.toNat o.toNat).length - 1)) true W)) := fun W hb => by
      have := impl_LongestJump c o W (hN.below hb) (hQ.below hb)
      rw [ht] at this
      unfold ljV at this
      rw [if_pos ht] at this
      exact this
    have HFr : ∀ ax ay bx b_y W, Below w.heap.size w W → Calls Tryd.prog 14 #[.int .i64 0, .agg #[.int .i64 ax, .int .i64 ay], .agg #[.int .i64 bx, .int .i64 b_y]] W (SaysIOk (fsV 0 ax ay bx b_y) (fsOk 0 ax ay bx b_y) W) := fun ax ay bx b_y W hb => impl_FarSpots 0 ax ay bx b_y W (hN.below hb)
    have hspot := fun i hi => cv_spot c.toNat o.toNat c4 o5 i hi
    have hfirst := cv_first c.toNat c4 o.toNat o5
    have hjump := cv_jump c.toNat o.toNat c4 o5
    obtain ⟨L, hL⟩ : ∃ L, cvF c.toNat o.toNat = L := ⟨_, rfl⟩
    obtain ⟨p, hp⟩ : ∃ p, 2 ^ o.toNat = p := ⟨_, rfl⟩
    rw [hp] at hsp h16 h1p hlen hspot
    rw [hL] at hlen hspot hfirst hjump HLJ
    have hpI : (2 : Int) ^ o.toNat = (p : Int) := by rw [← hp]; exact (Int.natCast_pow 2 _).symm
    rw [hpI] at hspot
    obtain ⟨N, hNN⟩ : ∃ N, p * p = N := ⟨_, rfl⟩
    rw [hNN] at hlen hspot
    have hN1 : 1 ≤ N := by rw [← hNN]; exact Nat.mul_le_mul h1p h1p
    have hN256 : N ≤ 256 := by rw [← hNN]; exact Nat.mul_le_mul h16 h16
    have hNI : (p : Int) * (p : Int) = (N : Int) := by rw [← hNN]; exact (Int.natCast_mul p p).symm
    have km : IntKind.i64.wrap ((p : Int) * (p : Int)) = (N : Int) := by rw [hNI]; exact IntWalk.i64_in _ (by omega)
    -- SpotAt
    have HSI : Hid (∀ (i : Nat) W, i < N → Below w.heap.size w W → Calls Tryd.prog 12 #[.int .i64 c, .int .i64 o, .int .i64 (i : Int)] W (SaysSOk (L.getD i (0, 0)) true W)) := fun i W hi hb => by
      have := HSA (i : Int) W hb
      have hk : saOk c o (i : Int) = true := by unfold saOk; rw [ht, hsp, hNI]; unfold inB; rw [decide_eq_true (by omega), decide_eq_true (by omega)]; rfl
      unfold saV at this
      rw [if_pos hk, hk, hL, Int.toNat_natCast] at this
      exact this
    have HSN : Hid (∀ W, Below w.heap.size w W → Calls Tryd.prog 12 #[.int .i64 c, .int .i64 o, .int .i64 (N : Int)] W (SaysSOk (0, 0) false W)) := fun W hb => by
      have := HSA (N : Int) W hb
      have hk : saOk c o (N : Int) = false := by unfold saOk; rw [ht, hsp, hNI]; unfold inB; rw [decide_eq_true (by omega), decide_eq_false (by omega)]; rfl
      unfold saV at this
      rw [if_neg (by rw [hk]; decide), hk] at this
      exact this
    have HS0 : Hid (∀ W, Below w.heap.size w W → Calls Tryd.prog 12 #[.int .i64 c, .int .i64 o, .int .i64 0] W (SaysSOk (0, 0) true W)) := fun W hb => by
      have := HSI.out 0 W (by omega) hb
      rw [hfirst] at this
      exact this
    have HII : Hid (∀ (i : Nat) W, i < N → Below w.heap.size w W → Calls Tryd.prog 13 #[.int .i64 c, .int .i64 o, .int .i64 (L.getD i (0, 0)).1, .int .i64 (L.getD i (0, 0)).2] W (SaysIOk (i : Int) true W)) := fun i W hi hb => by
      obtain ⟨q1, q2, q3, q4, q5⟩ := hspot i hi
      have := HIx (L.getD i (0, 0)).1 (L.getD i (0, 0)).2 W hb
      have hk : ixOk c o (L.getD i (0, 0)).1 (L.getD i (0, 0)).2 = true := by unfold ixOk; rw [ht, hsp]; unfold inB; rw [decide_eq_true q1, decide_eq_true (by omega), decide_eq_true q3, decide_eq_true (by omega)]; rfl
      unfold ixV at this
      rw [if_pos hk, hk, q5] at this
      exact this
    have HFI : Hid (∀ (i : Nat) W, i < N → Below w.heap.size w W → Calls Tryd.prog 14 #[.int .i64 0, .agg #[.int .i64 (L.getD (i - 1) (0, 0)).1, .int .i64 (L.getD (i - 1) (0, 0)).2], .agg #[.int .i64 (L.getD i (0, 0)).1, .int .i64 (L.getD i (0, 0)).2]] W (SaysIOk (farI 0 (L.getD (i - 1) (0, 0)).1 (L.getD (i - 1) (0, 0)).2 (L.getD i (0, 0)).1 (L.getD i (0, 0)).2) true W)) := fun i W hi hb => by
      obtain ⟨q1, q2, q3, q4, q5⟩ := hspot i hi
      obtain ⟨s1, s2, s3, s4, s5⟩ := hspot (i - 1) (by omega)
      have := HFr (L.getD (i - 1) (0, 0)).1 (L.getD (i - 1) (0, 0)).2 (L.getD i (0, 0)).1 (L.getD i (0, 0)).2 W hb
      have hk : fsOk 0 (L.getD (i - 1) (0, 0)).1 (L.getD (i - 1) (0, 0)).2 (L.getD i (0, 0)).1 (L.getD i (0, 0)).2 = true := by
        unfold fsOk nearB inB
        simp only [Bool.and_eq_true, decide_eq_true_eq]
        omega
      unfold fsV at this
      rw [if_pos hk, hk] at this
      exact this
    have HMx : Hid (∀ k, mxJ L (k + 1) = max (mxJ L k) (farI 0 (L.getD k (0, 0)).1 (L.getD k (0, 0)).2 (L.getD (k + 1) (0, 0)).1 (L.getD (k + 1) (0, 0)).2)) := fun _ => rfl
    have HM0 : Hid (mxJ L 0 = 0) := rfl
    have hend : o = 0 ∨ (o ≠ 0 ∧ c ≠ 1 ∧ c ≠ 3) ∨ (o ≠ 0 ∧ (c = 1 ∨ c = 3) ∧ mxJ L (L.length - 1) = 1) := by
      by_cases h0 : o = 0
      · exact Or.inl h0
      · by_cases h1 : c = 1 ∨ c = 3
        · refine Or.inr (Or.inr ⟨h0, h1, hjump (by omega) (by omega)⟩)
        · exact Or.inr (Or.inl ⟨h0, by omega, by omega⟩)
    rw [hlen] at HLJ hend
    obtain ⟨J, hJ⟩ : ∃ J, mxJ L (N - 1) = J := ⟨_, rfl⟩
    rw [hJ] at HLJ hend
    have HJ := Lib.hid hJ
    have HEnd := Lib.hid hend
    have HFst := Lib.hid hfirst
    rw [hsp] at ks1 ks2
    unfold SaysSOk at HSI HSN HS0
    unfold SaysIOk at HII HFI HLJ
    have HNe : ∀ (W : World), (binOp .neq 29 (.agg #[.int .i64 0, .int .i64 0]) (.agg #[.int .i64 0, .int .i64 0])).run Tryd.prog W = .ok (.bool false) W := fun W => by kernel_rfl
    clear HSA HIx HFr hspot hfirst hjump hlen hJ hL hp hpI hsp hNN h16 h1p hNI ht c4 o5 hend hN hQ
    go_enter Tryd.func3, Tryd.ntmps3
    go_wp2_with fail
    refine CL.out.mono ?_
    rintro e w' ⟨rfl, rfl⟩
    go_wp2_with fail
    refine CA0'.out.mono ?_
    rintro e w' ⟨rfl, rfl⟩
    go_wp2_with fail
    refine CA1'.out.mono ?_
    rintro e w' ⟨rfl, rfl⟩
    go_wp2_with fail
    refine (HLJ.out _ (Below.refl _ _)).mono ?_
    rintro e w1 ⟨rfl, hb1⟩
    have HB1 := Lib.hid (hb1.alloc hb1.size (.cells #[.int .i64 0, .int .i64 0] 29))
    have HV1 : Hid (Var2 (w1.alloc (.cells #[.int .i64 0, .int .i64 0] 29)) w1.heap.size (0, 0)) := heap_alloc_last w1 _
    have HL1 := Lib.hid hb1.size
    clear hb1 CL CA0' CA1' HLJ
    obtain ⟨W1, hW1⟩ : ∃ W, w1.alloc (.cells #[.int .i64 0, .int .i64 0] 29) = W := ⟨_, rfl⟩
    obtain ⟨q, hq⟩ : ∃ q, w1.heap.size = q := ⟨_, rfl⟩
    rw [hW1, hq] at HV1
    rw [hW1] at HB1
    rw [hq] at HL1
    have HW1 := Lib.hid hW1
    have HQ1 := Lib.hid hq
    have HQs : Hid (q + 1 = W1.heap.size) := by show _ = _; rw [← hW1, ← hq]; simp
    clear hW1 hq
    go_wp2_with fail
    rw [HW1.out, HQ1.out]
    go_loopw [10, 12] (fun mv iv wr => ∃ k : Nat, k ≤ N ∧ iv = .int .i64 (k : Int) ∧ mv = .int .i64 (mxJ L (k - 1)) ∧ Hid (Var2 wr q (L.getD (k - 1) (0, 0))) ∧ Hid (Below w.heap.size w wr)) (fun _ iv _ => N - (intOf iv).toNat)
    case atStart => exact ⟨0, by omega, rfl, by rw [HM0.out], by rw [HFst.out]; exact HV1, HB1⟩
    case round =>
      obtain ⟨k, hkN, rfl, rfl, HV, HB⟩ := hrel
      by_cases hlt : k < N
      · have kk : (k : Int) < (N : Int) := by omega
        have CS := Lib.hid (fun W hb => HSI.out k W hlt hb)
        have CI := Lib.hid (fun W hb => HII.out k W hlt hb)
        have CF := Lib.hid (fun W hb => HFI.out k W hlt hb)
        have HMk : Hid ((k = 0 ∧ mxJ L (k - 1) = 0 ∧ mxJ L k = 0) ∨ (0 < k ∧ mxJ L k = max (mxJ L (k - 1)) (farI 0 (L.getD (k - 1) (0, 0)).1 (L.getD (k - 1) (0, 0)).2 (L.getD k (0, 0)).1 (L.getD k (0, 0)).2))) := by
          show _ ∨ _
          by_cases h0 : k = 0
          · subst h0; exact Or.inl ⟨rfl, HM0.out, HM0.out⟩
          · refine Or.inr ⟨by omega, ?_⟩
            obtain ⟨j, rfl⟩ : ∃ j, k = j + 1 := ⟨k - 1, by omega⟩
            exact HMx.out j
        have HVn : Hid (∀ W, W.heap[q]? = some (.cells #[.int .i64 (L.getD k (0, 0)).1, .int .i64 (L.getD k (0, 0)).2] 29 (0, 0)) → Var2 W q (L.getD k (0, 0))) := fun W h => h
        have HV' := HV.out
        unfold Var2 at HV'
        obtain ⟨m, hm⟩ : ∃ m, mxJ L (k - 1) = m := ⟨_, rfl⟩
        obtain ⟨d, hd⟩ : ∃ m, farI 0 (L.getD (k - 1) (0, 0)).1 (L.getD (k - 1) (0, 0)).2 (L.getD k (0, 0)).1 (L.getD k (0, 0)).2 = m := ⟨_, rfl⟩
        rw [hm, hd] at HMk
        rw [hd] at CF
        rw [hm]
        obtain ⟨a1, ha1⟩ : ∃ z, (L.getD (k - 1) (0, 0)).1 = z := ⟨_, rfl⟩
        obtain ⟨a2, ha2⟩ : ∃ z, (L.getD (k - 1) (0, 0)).2 = z := ⟨_, rfl⟩
        obtain ⟨b1, hb1⟩ : ∃ z, (L.getD k (0, 0)).1 = z := ⟨_, rfl⟩
        obtain ⟨b2, hb2⟩ : ∃ z, (L.getD k (0, 0)).2 = z := ⟨_, rfl⟩
        rw [ha1, ha2] at HV' CF
        rw [hb1, hb2] at CS CI CF HVn
        have HVV : Hid (Var2 wr q (a1, a2)) := HV'
        have hql := Lib.hid HVV.out.lt
        clear hm hd ha1 ha2 hb1 hb2 HV HV'
        have HM2 := HMk
        go_wp2_with fail
        refine (CS.out _ HB.out).mono ?_
        rintro e w2 ⟨rfl, hb2⟩
        have HB2 := Lib.hid ((HB.out.trans (hb2.mono HB.out.size)).alloc (HB.out.trans (hb2.mono HB.out.size)).size (.cells #[.int .i64 b1, .int .i64 b2] 29))
        have HS2 : Hid (Var2 (w2.alloc (.cells #[.int .i64 b1, .int .i64 b2] 29)) w2.heap.size (b1, b2)) := heap_alloc_last w2 _
        have HV2 := Lib.hid ((HVV.out.below hb2).below (Joins.below_alloc1 w2 (.cells #[.int .i64 b1, .int .i64 b2] 29)))
        clear hb2 CS
        obtain ⟨W2, hW2⟩ : ∃ W, w2.alloc (.cells #[.int .i64 b1, .int .i64 b2] 29) = W := ⟨_, rfl⟩
        obtain ⟨p2, hp2⟩ : ∃ p, w2.heap.size = p := ⟨_, rfl⟩
        rw [hW2, hp2] at HS2
        rw [hW2] at HB2 HV2
        have HW2 := Lib.hid hW2
        have HP2 := Lib.hid hp2
        clear hW2 hp2
        go_upto_region 3 with fail
        rw [HW2.out, HP2.out]
        have s0 := HS2.out.c0
        have s1 := HS2.out.c1
        go_wp2_with fail
        refine (CI.out _ HB2.out).mono ?_
        rintro e w3 ⟨rfl, hb3⟩
        have HB3 := Lib.hid (HB2.out.trans (hb3.mono HB2.out.size))
        have HS3 := Lib.hid (HS2.out.below hb3)
        have HV3 := Lib.hid (HV2.out.below hb3)
        clear hb3 s0 s1 HS2 HV2 CI
        have s0 := HS3.out.c0
        have s1 := HS3.out.c1
        have l0 := HV3.out.c0
        have l1 := HV3.out.c1
        go_wp2_with fail
        refine (CF.out _ HB3.out).mono ?_
        rintro e w4 ⟨rfl, hb4⟩
        have HB4 := Lib.hid (HB3.out.trans (hb4.mono HB3.out.size))
        have HS4 := Lib.hid (HS3.out.below hb4)
        have HV4 := Lib.hid (HV3.out.below hb4)
        clear hb4 s0 s1 l0 l1 HS3 HV3 CF
        have s0 := HS4.out.c0
        have s1 := HS4.out.c1
        have l0 := HV4.out.c0
        have l1 := HV4.out.c1
        have f0 := two_free HV4.out 0
        have f1 := two_free HV4.out 1
        have HR : Hid (Var2 ((w4.setCell ⟨q, 0, none⟩ (.int .i64 b1)).setCell ⟨q, 1, none⟩ (.int .i64 b2)) q (L.getD k (0, 0)) ∧ Below w.heap.size w ((w4.setCell ⟨q, 0, none⟩ (.int .i64 b1)).setCell ⟨q, 1, none⟩ (.int .i64 b2))) :=
          ⟨HVn.out _ (HV4.out.upd b1 b2), (HB4.out.setCell (p := ⟨q, 0, none⟩) HL1.out _).setCell (p := ⟨q, 1, none⟩) HL1.out _⟩
        rcases HM2.out with ⟨h0, h1, h2⟩ | ⟨h0, h1⟩
        · have hk0 : ¬ 0 < k := by omega
          have HE := Lib.hid (h2.trans h1.symm)
          clear h0 h1 h2 HMk HM2
          go_wp2_with fail
          go_roundw
          case rel => exact ⟨k + 1, by omega, by go_num, by rw [show k + 1 - 1 = k from rfl, HE.out], Lib.hid HR.out.1, Lib.hid HR.out.2⟩
          case measure => simp [intOf]; omega
        · by_cases h : m < d
          · have HE : Hid (mxJ L k = d) := by show _ = _; rw [h1]; omega
            clear h1 HMk HM2
            go_wp2_with fail
            go_roundw
            case rel => exact ⟨k + 1, by omega, by go_num, by rw [show k + 1 - 1 = k from rfl, HE.out], Lib.hid HR.out.1, Lib.hid HR.out.2⟩
            case measure => simp [intOf]; omega
          · have HE : Hid (mxJ L k = m) := by show _ = _; rw [h1]; omega
            clear h1 HMk HM2
            go_wp2_with fail
            go_roundw
            case rel => exact ⟨k + 1, by omega, by go_num, by rw [show k + 1 - 1 = k from rfl, HE.out], Lib.hid HR.out.1, Lib.hid HR.out.2⟩
            case measure => simp [intOf]; omega
      · obtain rfl : k = N := by omega
        rw [HJ.out]
        clear HMx HM0 HSI HII HFI HFst
        go_wp2_with fail
        refine (HSN.out _ HB.out).mono ?_
        rintro e w2 ⟨rfl, hb2⟩
        have HB2 := Lib.hid ((HB.out.trans (hb2.mono HB.out.size)).alloc (HB.out.trans (hb2.mono HB.out.size)).size (.cells #[.int .i64 0, .int .i64 0] 29))
        clear hb2
        obtain ⟨W2, hW2⟩ : ∃ W, w2.alloc (.cells #[.int .i64 0, .int .i64 0] 29) = W := ⟨_, rfl⟩
        rw [hW2] at HB2
        have HW2 := Lib.hid hW2
        clear hW2
        go_wp2_with fail
        rw [HW2.out]
        refine (HS0.out _ HB2.out).mono ?_
        rintro e w3 ⟨rfl, hb3⟩
        have HB3 := Lib.hid ((HB2.out.trans (hb3.mono HB2.out.size)).alloc (HB2.out.trans (hb3.mono HB2.out.size)).size (.cells #[.int .i64 0, .int .i64 0] 29))
        have HS3 : Hid (Var2 (w3.alloc (.cells #[.int .i64 0, .int .i64 0] 29)) w3.heap.size (0, 0)) := heap_alloc_last w3 _
        clear hb3
        obtain ⟨W3, hW3⟩ : ∃ W, w3.alloc (.cells #[.int .i64 0, .int .i64 0] 29) = W := ⟨_, rfl⟩
        obtain ⟨p3, hp3⟩ : ∃ p, w3.heap.size = p := ⟨_, rfl⟩
        rw [hW3, hp3] at HS3
        rw [hW3] at HB3
        have HW3 := Lib.hid hW3
        have HP3 := Lib.hid hp3
        clear hW3 hp3
        rcases HEnd.out with h0 | ⟨h0, h1, h2⟩ | ⟨h0, h1, h2⟩
        · subst h0
          go_wp2
          go_ret
          rw [HW3.out]
          exact ⟨rfl, HB3.out⟩
        · have k0 : (o == 0) = false := by simpa using h0
          have k1 : (c != 1) = true := by simpa using h1
          have k2 : (c != 3) = true := by simpa using h2
          go_wp2
          go_ret
          rw [HW3.out]
          exact ⟨rfl, HB3.out⟩
        · subst h2
          have k0 : (o == 0) = false := by simpa using h0
          rcases h1 with rfl | rfl
          · go_wp2
            go_ret
            rw [HW3.out]
            exact ⟨rfl, HB3.out⟩
          · go_wp2
            go_ret
            rw [HW3.out]
            exact ⟨rfl, HB3.out⟩
end Go.Proofs.YtabkkpifkkgpeaaDoor
