/- Contracts of single functions, and plain lemmas, on which the exact laws of this seat rest; each holds under the conditions that it states. -/
import Derived.Test.YtabkkpifkkgpeaaDoorCVK
import Derived.Test.YtabkkpifkkgpeaaDoorDB
import Derived.Test.YtabkkpifkkgpeaaDoorCVE
namespace Go.Proofs.YtabkkpifkkgpeaaDoor
set_option linter.unusedVariables false
set_option linter.unusedSimpArgs false
open Go.RowKit
attribute [local go_sem] Oper.semAt_some

theorem sNaN64 (a : Int) (w : World) : Calls Tryd.prog 129 #[.int .i64 a] w fun e w' => e = .returned (.bool false) ∧ w = w' := by
  go_enter Tryd.func129, Tryd.ntmps129
  go_wp2
  go_ret
  exact ⟨by simp, rfl⟩
theorem less64 (a b : Int) (w : World) : Calls Tryd.prog 128 #[.int .i64 a, .int .i64 b] w fun e w' => e = .returned (.bool (decide (a < b))) ∧ w = w' := by
  have C := Lib.hid (fun x W => isNaN64 x W)
  go_enter Tryd.func128, Tryd.ntmps128
  go_wp2_with fail
  refine (C.out _ _).mono ?_
  rintro e w' ⟨rfl, rfl⟩
  go_wp2
  go_ret
  exact ⟨rfl, rfl⟩

def BsR (ns : List Int) (t : Int) (w : World) (e : Ending) (w' : World) : Prop := ∃ (p : Nat) (fd : Bool), p ≤ ns.length ∧ (∀ q, q < p → ns.getD q 0 < t) ∧ (∀ q, p ≤ q → q < ns.length → t ≤ ns.getD q 0) ∧ e = .returned (.tuple #[.int .i64 (p : Int), .bool fd]) ∧ w = w'
set_option maxHeartbeats 2000000 in
set_option maxRecDepth 100000 in
theorem binSearch_any (v : Value) (ns : List Int) (t : Int) (w : World) (hv : SlN w v ns) (hsrt : ∀ a b, a ≤ b → b < ns.length → ns.getD a 0 ≤ ns.getD b 0) (h256 : ns.length ≤ 256) :
    Calls Tryd.prog 66 #[v, .int .i64 t] w (BsR ns t w) := by
  have CL := Lib.hid (fun a b W => less64 a b W)
  have CN := Lib.hid (fun a W => sNaN64 a W)
  rcases hv with ⟨ao, cap, rfl, rfl⟩ | ⟨b, off, cap, rfl, hpos, hb, hc⟩
  · have HE : Hid (∀ fd : Bool, BsR [] t w (.returned (.tuple #[.int .i64 0, .bool fd])) w) := fun fd => ⟨0, fd, Nat.le_refl _, fun q h => absurd h (Nat.not_lt_zero q), fun q _ h => absurd h (Nat.not_lt_zero q), rfl, rfl⟩
    clear hsrt h256
    go_enter Tryd.func66, Tryd.ntmps66
    go_wp2_with fail
    refine wp_loop_rounds 1 ?_; rw [rounds_succ]
    go_wp2
    go_ret2
    exact HE.out _
  · have HS := Lib.hid hsrt
    have HC := Lib.hid hc
    have HE : Hid (∀ (p : Nat) (fd : Bool), p ≤ ns.length → Hid (∀ q, q < p → ns.getD q 0 < t) → Hid (∀ q, p ≤ q → q < ns.length → t ≤ ns.getD q 0) → BsR ns t w (.returned (.tuple #[.int .i64 (p : Int), .bool fd])) w) := fun p fd h1 h2 h3 => ⟨p, fd, h1, h2.out, h3.out, rfl, rfl⟩
    obtain ⟨n, hn⟩ : ∃ n, ns.length = n := ⟨_, rfl⟩
    rw [hn] at HS HC h256 HE hpos ⊢
    clear hsrt hc hn
    go_enter Tryd.func66, Tryd.ntmps66
    go_wp2_with fail
    go_loopw [7, 8] (fun iv jv wr => ∃ i j : Nat, i ≤ j ∧ j ≤ n ∧ iv = .int .i64 (i : Int) ∧ jv = .int .i64 (j : Int) ∧ Hid (∀ q, q < i → ns.getD q 0 < t) ∧ Hid (∀ q, j ≤ q → q < n → t ≤ ns.getD q 0) ∧ w = wr) (fun iv jv _ => (intOf jv).toNat - (intOf iv).toNat)
    case atStart => exact ⟨0, n, Nat.zero_le _, Nat.le_refl _, rfl, rfl, Lib.hid (fun q h => absurd h (Nat.not_lt_zero q)), Lib.hid (fun q h1 h2 => by omega), rfl⟩
    case round =>
      obtain ⟨i, j, hij, hjn, rfl, rfl, HA, HB, rfl⟩ := hrel
      by_cases hlt : i < j
      · have kij : (i : Int) < (j : Int) := by omega
        obtain ⟨h, hh⟩ : ∃ h, (i + j) / 2 = h := ⟨_, rfl⟩
        have hh1 : i ≤ h := by omega
        have hh2 : h < j := by omega
        have kh : ((i : Int) + (j : Int)) / 2 = (h : Int) := by omega
        have khn : (h : Int) < (n : Int) := by omega
        have kh0 : (0 : Int) ≤ (h : Int) := by omega
        have k9 : (i : Int) + (j : Int) ≤ 512 := by omega
        have hcell := HC.out h (by omega)
        obtain ⟨z, hz⟩ : ∃ z, ns.getD h 0 = z := ⟨_, rfl⟩
        rw [hz] at hcell
        have Hz := Lib.hid hz
        have Hhj := Lib.hid hh
        clear hz hh
        have HS1 : Hid (z < t → ∀ q, q < h + 1 → ns.getD q 0 < t) := fun hzt q hq => by
          have := HS.out q h (by omega) (by omega)
          rw [Hz.out] at this
          omega
        have HS2 : Hid (¬ z < t → ∀ q, h ≤ q → q < n → t ≤ ns.getD q 0) := fun hzt q h1 h2 => by
          have := HS.out h q h1 h2
          rw [Hz.out] at this
          omega
        by_cases hzt : z < t
        · have HA2 := Lib.hid (HS1.out hzt)
          have C1 := Lib.hid (CL.out z t w)
          rw [decide_eq_true hzt] at C1
          clear HS1 HS2 hzt
          go_wp2_with fail
          refine C1.out.mono ?_
          rintro e w' ⟨rfl, rfl⟩
          go_wp2
          go_roundw
          case rel => exact ⟨h + 1, j, by omega, hjn, by go_num, rfl, HA2.out, HB, (by trivial)⟩
          case measure => simp [intOf]; omega
        · have HB2 := Lib.hid (HS2.out hzt)
          have C1 := Lib.hid (CL.out z t w)
          rw [decide_eq_false hzt] at C1
          clear HS1 HS2 hzt
          go_wp2_with fail
          refine C1.out.mono ?_
          rintro e w' ⟨rfl, rfl⟩
          go_wp2
          go_roundw
          case rel => exact ⟨i, h, by omega, by omega, rfl, rfl, HA, HB2.out, (by trivial)⟩
          case measure => simp [intOf]; omega
      · obtain rfl : i = j := by omega
        have HE2 := Lib.hid (fun fd => HE.out i fd hjn HA HB)
        clear HE HA HB HS
        by_cases hin : i < n
        · have kin : (i : Int) < (n : Int) := by omega
          have ki0 : (0 : Int) ≤ (i : Int) := by omega
          have hcell := HC.out i hin
          obtain ⟨z, hz⟩ : ∃ z, ns.getD i 0 = z := ⟨_, rfl⟩
          rw [hz] at hcell
          clear hz HC
          by_cases hzt : z = t
          · go_wp2_with fail
            go_ret2
            exact HE2.out _
          · go_wp2_with fail
            refine (CN.out _ _).mono ?_
            rintro e w' ⟨rfl, rfl⟩
            go_wp2_with fail
            go_ret2
            exact HE2.out _
        · obtain rfl : i = n := by omega
          clear HC
          go_wp2_with fail
          go_ret2
          exact HE2.out _
end Go.Proofs.YtabkkpifkkgpeaaDoor

/- Contracts of single functions, and plain lemmas, on which the exact laws of this seat rest; each holds under the conditions that it states. -/
namespace Go.Proofs.YtabkkpifkkgpeaaDoor
set_option linter.unusedVariables false
set_option linter.unusedSimpArgs false
open Go.RowKit
attribute [local go_sem] Oper.semAt_some

/-! ### the first index that is great enough -/
theorem ixs_sorted (f : Nat → Bool) (N : Nat) : ∀ a b, a ≤ b → b < (ixsV f N).length → (ixsV f N).getD a 0 ≤ (ixsV f N).getD b 0 := by
  intro a b hab hb
  have hp : List.Pairwise (· < ·) ((List.range N).filter f) := List.Pairwise.filter _ List.pairwise_lt_range
  unfold ixsV at hb ⊢
  rw [List.length_map] at hb
  have ha : a < ((List.range N).filter f).length := by omega
  rw [List.getD_eq_getElem?_getD, List.getD_eq_getElem?_getD, List.getElem?_map, List.getElem?_map, List.getElem?_eq_getElem ha, List.getElem?_eq_getElem hb]
  simp only [Option.map_some, Option.getD_some]
  by_cases e : a = b
  · subst e; exact Int.le_refl _
  · have := List.pairwise_iff_getElem.1 hp a b ha hb (by omega)
    omega
theorem ixs_at {f : Nat → Bool} {N p : Nat} (h : p < (ixsV f N).length) : ∃ i : Nat, (ixsV f N).getD p 0 = (i : Int) ∧ i < N ∧ f i = true := by
  unfold ixsV at h ⊢
  rw [List.length_map] at h
  refine ⟨((List.range N).filter f)[p], ?_, ?_⟩
  · rw [List.getD_eq_getElem?_getD, List.getElem?_map, List.getElem?_eq_getElem h]
    rfl
  · have := List.getElem_mem h
    rw [List.mem_filter, List.mem_range] at this
    exact this
theorem ixs_has {f : Nat → Bool} {N j : Nat} (hj : j < N) (hf : f j = true) : ∃ q, q < (ixsV f N).length ∧ (ixsV f N).getD q 0 = (j : Int) := by
  have hm : j ∈ (List.range N).filter f := by rw [List.mem_filter, List.mem_range]; exact ⟨hj, hf⟩
  obtain ⟨q, hq, he⟩ := List.getElem_of_mem hm
  refine ⟨q, by unfold ixsV; rw [List.length_map]; exact hq, ?_⟩
  unfold ixsV
  rw [List.getD_eq_getElem?_getD, List.getElem?_map, List.getElem?_eq_getElem hq, he]
  rfl
theorem next_some {f : Nat → Bool} {N s p : Nat} (hp : p < (ixsV f N).length) (hA : ∀ q, q < p → (ixsV f N).getD q 0 < (s : Int)) (hB : ∀ q, p ≤ q → q < (ixsV f N).length → (s : Int) ≤ (ixsV f N).getD q 0) : ∃ i : Nat, (ixsV f N).getD p 0 = (i : Int) ∧ nxO f N s = some i := by
  obtain ⟨i, h1, h2, h3⟩ := ixs_at hp
  refine ⟨i, h1, nxO_some h2 ?_ h3 fun j hj1 hj2 => ?_⟩
  · have := hB p (Nat.le_refl _) hp
    rw [h1] at this
    omega
  · cases hf : f j with
    | false => rfl
    | true =>
      obtain ⟨q, hq1, hq2⟩ := ixs_has (by omega : j < N) hf
      by_cases hqp : q < p
      · have := hA q hqp
        rw [hq2] at this
        omega
      · have := ixs_sorted f N p q (by omega) hq1
        rw [h1, hq2] at this
        omega
theorem next_none {f : Nat → Bool} {N s : Nat} (hA : ∀ q, q < (ixsV f N).length → (ixsV f N).getD q 0 < (s : Int)) : nxO f N s = none := by
  refine nxO_none fun j hj1 hj2 => ?_
  cases hf : f j with
  | false => rfl
  | true =>
    obtain ⟨q, hq1, hq2⟩ := ixs_has hj2 hf
    have := hA q hq1
    rw [hq2] at this
    omega

/-- the arguments in variables -/
def At5 (W : World) (pc pn pi pf pt : Nat) (c n i ax ay bx b_y : Int) : Prop :=
  W.cell? ⟨pc, 0, none⟩ = some (.int .i64 c) ∧ W.cell? ⟨pn, 0, none⟩ = some (.int .i64 n) ∧ W.cell? ⟨pi, 0, none⟩ = some (.int .i64 i) ∧ W.cell? ⟨pf, 0, none⟩ = some (.int .i64 ax) ∧ W.cell? ⟨pf, 1, none⟩ = some (.int .i64 ay) ∧ W.cell? ⟨pt, 0, none⟩ = some (.int .i64 bx) ∧ W.cell? ⟨pt, 1, none⟩ = some (.int .i64 b_y)
theorem At5.kept {w W : World} {pc pn pi pf pt : Nat} {c n i ax ay bx b_y : Int} (h : At5 w pc pn pi pf pt c n i ax ay bx b_y) (hb : Below w.heap.size w W) : At5 W pc pn pi pf pt c n i ax ay bx b_y :=
  ⟨cell_kept hb h.1, cell_kept hb h.2.1, cell_kept hb h.2.2.1, cell_kept hb h.2.2.2.1, cell_kept hb h.2.2.2.2.1, cell_kept hb h.2.2.2.2.2.1, cell_kept hb h.2.2.2.2.2.2⟩
theorem nb_len {c n : Int} (ht : (inB c 0 3 && inB n 0 4) = true) : (cvF c.toNat n.toNat).length = 2 ^ n.toNat * 2 ^ n.toNat ∧ (((2 ^ n.toNat * 2 ^ n.toNat : Nat)) : Int) = sd n * sd n ∧ 2 ^ n.toNat * 2 ^ n.toNat ≤ 256 := by
  obtain ⟨c', n', rfl, rfl, h1, h2⟩ := tour_nat ht
  simp only [Int.toNat_natCast]
  exact ⟨cvF_len _ _, (sd_sq n').symm, Nat.mul_le_mul (pow_le16 h2) (pow_le16 h2)⟩
/-- the indices of the box that is there -/
theorem reqIx_int {c n ax ay bx b_y : Int} {W : World} (ht : (inB c 0 3 && inB n 0 4) = true) (hbx : boxOk n ax ay bx b_y = true) (hQ : QvP W) : Calls Tryd.prog 64 #[.agg #[.int .i64 c, .int .i64 n], .agg #[.int .i64 ax, .int .i64 ay], .agg #[.int .i64 bx, .int .i64 b_y]] W (fun e w' => ∃ v, e = .returned v ∧ SlN w' v (ixsV (bxF c.toNat n.toNat ax ay bx b_y) (cvF c.toNat n.toNat).length) ∧ Below W.heap.size W w') := by
  obtain ⟨c', n', rfl, rfl, h1, h2⟩ := tour_nat ht
  simp only [Int.toNat_natCast]
  unfold boxOk at hbx
  rw [Bool.and_eq_true] at hbx
  rw [cvF_len]
  exact (requiredIndices_yes c' n' ax ay bx b_y W h1 h2 hQ hbx.2).mono fun e w' ⟨v, h1, h2, h3⟩ => ⟨v, h1, h2.sl, h3⟩
theorem reqIx_int_no {c n ax ay bx b_y : Int} {W : World} (ht : (inB c 0 3 && inB n 0 4) = true) (hbx : boxOk n ax ay bx b_y = false) (hr : NoRes W) : Calls Tryd.prog 64 #[.agg #[.int .i64 c, .int .i64 n], .agg #[.int .i64 ax, .int .i64 ay], .agg #[.int .i64 bx, .int .i64 b_y]] W (fun e w' => (∃ T x, e = .panicked [{ v := .iface T x, recovered := false }]) ∧ Below W.heap.size W w') := by
  obtain ⟨c', n', rfl, rfl, h1, h2⟩ := tour_nat ht
  unfold boxOk at hbx
  have hn : inB (n' : Int) 0 4 = true := by
    simp only [Bool.and_eq_true] at ht
    exact ht.2
  rw [hn, Bool.true_and] at hbx
  exact requiredIndices_no c' n' ax ay bx b_y W h2 hr hbx
theorem len_int {c n : Int} (ht : (inB c 0 3 && inB n 0 4) = true) (W : World) : Calls Tryd.prog 54 #[.agg #[.int .i64 c, .int .i64 n]] W (fun e w' => e = .returned (.int .i64 (sd n * sd n)) ∧ Below W.heap.size W w') := by
  obtain ⟨c', n', rfl, rfl, h1, h2⟩ := tour_nat ht
  rw [sd_sq]
  exact length_any c' n' W h2

set_option maxHeartbeats 4000000 in
set_option maxRecDepth 100000 in
/-- when the tour, the index and the box are there -/
theorem nextWork (pc pn pi pf pt : Nat) (c n i ax ay bx b_y : Int) (w : World) (h : At5 w pc pn pi pf pt c n i ax ay bx b_y) (hQ : QvP w) (hr : NoRes w) (hok : nbP c n ax ay bx b_y i = true) :
    Calls Tryd.prog 65 #[.pointer (some ⟨pc, 0, none⟩), .pointer (some ⟨pn, 0, none⟩), .pointer (some ⟨pi, 0, none⟩), .pointer (some ⟨pf, 0, none⟩), .pointer (some ⟨pt, 0, none⟩)] w (fun e w' => ((∃ m : Nat, nbO c n ax ay bx b_y i = some m ∧ e = .returned (.int .i64 (m : Int))) ∨ (nbO c n ax ay bx b_y i = none ∧ ∃ T x, e = .panicked [{ v := .iface T x, recovered := false }])) ∧ Below w.heap.size w w') := by
  have hO : nbO c n ax ay bx b_y i = nxO (bxF c.toNat n.toNat ax ay bx b_y) (cvF c.toNat n.toNat).length i.toNat := by unfold nbO; rw [if_pos hok]
  unfold nbP at hok
  obtain ⟨ht, hok2⟩ := Bool.and_eq_true_iff.1 hok
  obtain ⟨hbx, hi⟩ := Bool.and_eq_true_iff.1 hok2
  have ht2 : inB c 0 3 = true ∧ inB n 0 4 = true := by simpa using ht
  have CT : Hid (∀ W, Calls Tryd.prog 49 #[.int .i64 c, .int .i64 n] W (fun e w' => e = .returned (.agg #[.int .i64 c, .int .i64 n]) ∧ Below W.heap.size W w')) := fun W => requiredTour_yes c n W ht2.1 ht2.2
  have CL := Lib.hid (fun W => len_int ht W)
  have HCR : Hid (∀ W, Below w.heap.size w W → Calls Tryd.prog 64 #[.agg #[.int .i64 c, .int .i64 n], .agg #[.int .i64 ax, .int .i64 ay], .agg #[.int .i64 bx, .int .i64 b_y]] W (fun e w' => ∃ v, e = .returned v ∧ SlN w' v (ixsV (bxF c.toNat n.toNat ax ay bx b_y) (cvF c.toNat n.toNat).length) ∧ Below W.heap.size W w')) := fun W hb => reqIx_int ht hbx (hQ.below hb)
  obtain ⟨hl1, hl2, hl3⟩ := nb_len ht
  have hi2 := inB_le hi
  rw [← hl1] at hl2 hl3
  rw [hO]
  obtain ⟨k, rfl⟩ : ∃ k : Nat, i = k := ⟨i.toNat, by omega⟩
  simp only [Int.toNat_natCast]
  have HSs : Hid (∀ p, p < (ixsV (bxF c.toNat n.toNat ax ay bx b_y) (cvF c.toNat n.toNat).length).length → _ → _ → _) := fun p => @next_some (bxF c.toNat n.toNat ax ay bx b_y) (cvF c.toNat n.toNat).length k p
  have HSn := Lib.hid (@next_none (bxF c.toNat n.toNat ax ay bx b_y) (cvF c.toNat n.toNat).length k)
  have HSt := Lib.hid (ixs_sorted (bxF c.toNat n.toNat ax ay bx b_y) (cvF c.toNat n.toNat).length)
  have hle := ixsV_len (bxF c.toNat n.toNat ax ay bx b_y) (cvF c.toNat n.toNat).length
  obtain ⟨V, hV⟩ : ∃ V, ixsV (bxF c.toNat n.toNat ax ay bx b_y) (cvF c.toNat n.toNat).length = V := ⟨_, rfl⟩
  obtain ⟨O, hO2⟩ : ∃ O, nxO (bxF c.toNat n.toNat ax ay bx b_y) (cvF c.toNat n.toNat).length k = O := ⟨_, rfl⟩
  rw [hV] at HCR HSs HSn HSt hle
  rw [hO2] at HSs HSn ⊢
  obtain ⟨e2, he2⟩ : ∃ e, sd n * sd n = e := ⟨_, rfl⟩
  rw [he2] at CL hl2 hi2
  have ke : (k : Int) < e2 := by omega
  have kk0 : (0 : Int) ≤ (k : Int) := by omega
  have V256 : V.length ≤ 256 := by omega
  have CB : Hid (∀ v W, SlN W v V → Calls Tryd.prog 66 #[v, .int .i64 (k : Int)] W (BsR V (k : Int) W)) := fun v W hv => binSearch_any v V (k : Int) W hv HSt.out V256
  have HNR : Hid (∀ W, Below w.heap.size w W → Calls Tryd.prog 53 #[.bool false] W fun e w' => ∃ T x, e = .panicked [{ v := .iface T x, recovered := false }] ∧ w' = W) := fun W hb => require_no W (hr.below hb)
  have HA : Hid (∀ W, Below w.heap.size w W → At5 W pc pn pi pf pt c n (k : Int) ax ay bx b_y) := fun W hb => h.kept hb
  have q00 := h
  unfold At5 at q00
  obtain ⟨q0, q1, q2, q3, q4, q5, q6⟩ := q00
  unfold BsR at CB
  clear hO hO2 ht hbx hi ht2 hl1 hl2 hl3 hi2 hle hV he2 h hQ hr HSt
  go_enter Tryd.func65, Tryd.ntmps65
  go_upto_region 1 with fail
  go_wp2_with fail
  refine (CT.out _).mono ?_
  rintro e w1 ⟨rfl, hb1⟩
  have hbA := hb1.alloc hb1.size (.cells #[.int .i64 c, .int .i64 n] 71)
  have hp := heap_alloc_last w1 (.cells #[.int .i64 c, .int .i64 n] 71)
  have HBw := Lib.hid hbA
  clear q0 q1 q2 q3 q4 q5 q6 hb1
  go_upto_region 2 with fail
  obtain ⟨W2, hW2⟩ : ∃ W2, w1.alloc (.cells #[.int .i64 c, .int .i64 n] 71) = W2 := ⟨_, rfl⟩
  obtain ⟨pq, hpq⟩ : ∃ p, w1.heap.size = p := ⟨_, rfl⟩
  rw [hW2] at hp HBw
  rw [hpq] at hp
  have HW2 := Lib.hid hW2
  have HPt := Lib.hid hpq
  rw [HW2.out, HPt.out]
  have HX : Hid (∀ W, Below W2.heap.size W2 W → (W.cell? ⟨pq, 0, none⟩ = some (.int .i64 c) ∧ W.cell? ⟨pq, 1, none⟩ = some (.int .i64 n)) ∧ W.cell? ⟨pi, 0, none⟩ = some (.int .i64 ((k : Int))) ∧ True) := fun W hb =>
    ⟨⟨cell_kept hb (by rw [Joins.cell_of_block hp 0]; rfl), cell_kept hb (by rw [Joins.cell_of_block hp 1]; rfl)⟩, (HA.out W (HBw.out.trans (hb.mono HBw.out.size))).2.2.1, trivial⟩
  clear hp hbA hW2 hpq
  refine wp_region_inv_at (by kernel_rfl) (fun A0 L A W => ∃ (b0 b1 b2 b3 b4 b5 b6 b7 b8 : Bool) (v13 v14 v15 v16 v17 v18 v19 v20 v21 : Value), L = #[b0, b1, b2, b3, b4, b5, b6, b7, b8] ∧ A = (((((((((A0.put (some 13) v13).put (some 14) v14).put (some 15) v15).put (some 16) v16).put (some 17) v17).put (some 18) v18).put (some 19) v19).put (some 20) v20).put (some 21) v21) ∧ (Below W2.heap.size W2 W) ∧ Hid (b0 = true → v13 = .int .i64 (k : Int)) ∧ Hid (b1 = true → v14 = .bool true) ∧ Hid (b2 = true → v15 = .bool true) ∧ Hid (b3 = true → v16 = .int .i64 (k : Int)) ∧ Hid (b4 = true → v17 = .agg #[.int .i64 c, .int .i64 n]) ∧ Hid (b5 = true → v18 = .int .i64 e2) ∧ Hid (b6 = true → v19 = .bool true) ∧ Hid (b7 = true → v20 = .bool true) ∧ Hid (b8 = true → v21 = .tuple #[])) ?_ ?_ ?_
  · intro A0
    refine ⟨false, false, false, false, false, false, false, false, false, A0.tmps.getD 13 undef, A0.tmps.getD 14 undef, A0.tmps.getD 15 undef, A0.tmps.getD 16 undef, A0.tmps.getD 17 undef, A0.tmps.getD 18 undef, A0.tmps.getD 19 undef, A0.tmps.getD 20 undef, A0.tmps.getD 21 undef, rfl, (by simp only [put_self]), (Below.refl _ _).drew, Lib.hid (fun hf => by cases hf), Lib.hid (fun hf => by cases hf), Lib.hid (fun hf => by cases hf), Lib.hid (fun hf => by cases hf), Lib.hid (fun hf => by cases hf), Lib.hid (fun hf => by cases hf), Lib.hid (fun hf => by cases hf), Lib.hid (fun hf => by cases hf), Lib.hid (fun hf => by cases hf)⟩
  · intro L A W hI i hi o ho K' hK
    have hlt := (ready_left hi).1
    have hun := (ready_left hi).2
    have haf := ready_after hi ho
    clear hi
    obtain ⟨b0, b1, b2, b3, b4, b5, b6, b7, b8, v13, v14, v15, v16, v17, v18, v19, v20, v21, rfl, rfl, hB, h0, h1, h2, h3, h4, h5, h6, h7, h8⟩ := hI
    have hc : i = 0 ∨ i = 1 ∨ i = 2 ∨ i = 3 ∨ i = 4 ∨ i = 5 ∨ i = 6 ∨ i = 7 ∨ i = 8 := by
      simp at hlt
      omega
    have qq := HX.out W hB
    obtain ⟨q0, q1, q2⟩ := qq
    rcases hc with rfl | rfl | rfl | rfl | rfl | rfl | rfl | rfl | rfl
    all_goals (obtain rfl := Option.some.inj ho; clear ho; simp [Region.binds] at haf hun; (try simp only [List.getElem_toArray, List.getElem_cons_zero, List.getElem_cons_succ]); simp only [Act.put, List.setIfInBounds_toArray, List.set_cons_zero, List.set_cons_succ])
    · -- operation 0
      replace hK := Lib.hid hK
      subst hun
      go_simp
      exact hK.out _ _ ⟨true, b1, b2, b3, b4, b5, b6, b7, b8, .int .i64 (k : Int), v14, v15, v16, v17, v18, v19, v20, v21, rfl, (by simp only [Act.put, List.setIfInBounds_toArray, List.set_cons_zero, List.set_cons_succ]), hB, Lib.hid (fun _ => rfl), h1, h2, h3, h4, h5, h6, h7, h8⟩
    · -- operation 1
      replace hK := Lib.hid hK
      obtain rfl := (h0.out (by simp only [haf])).symm
      subst hun
      go_simp
      exact hK.out _ _ ⟨b0, true, b2, b3, b4, b5, b6, b7, b8, .int .i64 (k : Int), .bool true, v15, v16, v17, v18, v19, v20, v21, rfl, (by simp only [Act.put, List.setIfInBounds_toArray, List.set_cons_zero, List.set_cons_succ]), hB, Lib.hid (fun _ => rfl), Lib.hid (fun _ => rfl), h2, h3, h4, h5, h6, h7, h8⟩
    · -- operation 2
      replace hK := Lib.hid hK
      obtain rfl := (h1.out (by simp only [haf])).symm
      subst hun
      go_simp
      exact hK.out _ _ ⟨b0, b1, true, b3, b4, b5, b6, b7, b8, v13, .bool true, .bool true, v16, v17, v18, v19, v20, v21, rfl, (by simp only [Act.put, List.setIfInBounds_toArray, List.set_cons_zero, List.set_cons_succ]), hB, h0, Lib.hid (fun _ => rfl), Lib.hid (fun _ => rfl), h3, h4, h5, h6, h7, h8⟩
    · -- operation 3
      replace hK := Lib.hid hK
      obtain rfl := (h2.out (by simp only [haf])).symm
      subst hun
      go_simp
      exact hK.out _ _ ⟨b0, b1, b2, true, b4, b5, b6, b7, b8, v13, v14, .bool true, .int .i64 (k : Int), v17, v18, v19, v20, v21, rfl, (by simp only [Act.put, List.setIfInBounds_toArray, List.set_cons_zero, List.set_cons_succ]), hB, h0, h1, Lib.hid (fun _ => rfl), Lib.hid (fun _ => rfl), h4, h5, h6, h7, h8⟩
    · -- operation 4
      replace hK := Lib.hid hK
      obtain rfl := (h2.out (by simp only [haf])).symm
      subst hun
      go_simp
      exact hK.out _ _ ⟨b0, b1, b2, b3, true, b5, b6, b7, b8, v13, v14, .bool true, v16, .agg #[.int .i64 c, .int .i64 n], v18, v19, v20, v21, rfl, (by simp only [Act.put, List.setIfInBounds_toArray, List.set_cons_zero, List.set_cons_succ]), hB, h0, h1, Lib.hid (fun _ => rfl), h3, Lib.hid (fun _ => rfl), h5, h6, h7, h8⟩
    · -- operation 5
      replace hK := Lib.hid hK
      obtain rfl := (h2.out (by simp only [haf])).symm
      obtain rfl := (h4.out (by simp only [haf])).symm
      subst hun
      go_simp
      refine (CL.out W).mono ?_
      rintro e W' ⟨rfl, hb⟩
      have hkept := fun kb (hk : kb < W.heap.size) => hb.block kb hk
      exact hK.out _ _ ⟨b0, b1, b2, b3, b4, true, b6, b7, b8, v13, v14, .bool true, v16, .agg #[.int .i64 c, .int .i64 n], .int .i64 e2, v19, v20, v21, rfl, (by simp only [Act.put, List.setIfInBounds_toArray, List.set_cons_zero, List.set_cons_succ]), hB.trans (hb.mono hB.size), h0, h1, Lib.hid (fun _ => rfl), h3, Lib.hid (fun _ => rfl), Lib.hid (fun _ => rfl), h6, h7, h8⟩
    · -- operation 6
      replace hK := Lib.hid hK
      obtain rfl := (h2.out (by simp only [haf])).symm
      obtain rfl := (h3.out (by simp only [haf])).symm
      obtain rfl := (h5.out (by simp only [haf])).symm
      subst hun
      go_simp
      exact hK.out _ _ ⟨b0, b1, b2, b3, b4, b5, true, b7, b8, v13, v14, .bool true, .int .i64 (k : Int), v17, .int .i64 e2, .bool true, v20, v21, rfl, (by simp only [Act.put, List.setIfInBounds_toArray, List.set_cons_zero, List.set_cons_succ]), hB, h0, h1, Lib.hid (fun _ => rfl), Lib.hid (fun _ => rfl), h4, Lib.hid (fun _ => rfl), Lib.hid (fun _ => rfl), h7, h8⟩
    · -- operation 7
      replace hK := Lib.hid hK
      obtain rfl := (h2.out (by simp only [haf])).symm
      obtain rfl := (h6.out (by simp only [haf])).symm
      subst hun
      go_simp
      exact hK.out _ _ ⟨b0, b1, b2, b3, b4, b5, b6, true, b8, v13, v14, .bool true, v16, v17, v18, .bool true, .bool true, v21, rfl, (by simp only [Act.put, List.setIfInBounds_toArray, List.set_cons_zero, List.set_cons_succ]), hB, h0, h1, Lib.hid (fun _ => rfl), h3, h4, h5, Lib.hid (fun _ => rfl), Lib.hid (fun _ => rfl), h8⟩
    · -- operation 8
      replace hK := Lib.hid hK
      obtain rfl := (h7.out (by simp only [haf])).symm
      subst hun
      go_simp
      refine (require_yes W).mono ?_
      rintro e W' ⟨rfl, hb⟩
      replace hb : Below W.heap.size W W' := by rw [hb]; exact Below.refl _ _
      have hkept := fun kb (hk : kb < W.heap.size) => hb.block kb hk
      exact hK.out _ _ ⟨b0, b1, b2, b3, b4, b5, b6, b7, true, v13, v14, v15, v16, v17, v18, v19, .bool true, .tuple #[], rfl, (by simp only [Act.put, List.setIfInBounds_toArray, List.set_cons_zero, List.set_cons_succ]), hB.trans (hb.mono hB.size), h0, h1, h2, h3, h4, h5, h6, Lib.hid (fun _ => rfl), Lib.hid (fun _ => rfl)⟩
  intro L A W hI hr
  obtain ⟨b0, b1, b2, b3, b4, b5, b6, b7, b8, v13, v14, v15, v16, v17, v18, v19, v20, v21, rfl, rfl, hB, h0, h1, h2, h3, h4, h5, h6, h7, h8⟩ := hI
  have d0 := ready_done hr 0 _ rfl (by simp [Region.binds])
  simp at d0
  subst d0
  have d1 := ready_done hr 1 _ rfl (by simp [Region.binds])
  simp at d1
  subst d1
  have d2 := ready_done hr 2 _ rfl (by simp [Region.binds])
  simp at d2
  subst d2
  have d3 := ready_done hr 3 _ rfl (by simp [Region.binds])
  have d4 := ready_done hr 4 _ rfl (by simp [Region.binds])
  simp at d3 d4
  subst d3 d4
  have d5 := ready_done hr 5 _ rfl (by simp [Region.binds])
  simp at d5
  subst d5
  have d6 := ready_done hr 6 _ rfl (by simp [Region.binds])
  simp at d6
  subst d6
  have d7 := ready_done hr 7 _ rfl (by simp [Region.binds])
  simp at d7
  subst d7
  have d8 := ready_done hr 8 _ rfl (by simp [Region.binds])
  simp at d8
  subst d8
  obtain rfl := (h0.out rfl).symm
  obtain rfl := (h1.out rfl).symm
  obtain rfl := (h2.out rfl).symm
  obtain rfl := (h3.out rfl).symm
  obtain rfl := (h4.out rfl).symm
  obtain rfl := (h5.out rfl).symm
  obtain rfl := (h6.out rfl).symm
  obtain rfl := (h7.out rfl).symm
  obtain rfl := (h8.out rfl).symm
  simp only [Act.put, List.setIfInBounds_toArray, List.set_cons_zero, List.set_cons_succ]
  clear hr h0 h1 h2 h3 h4 h5 h6 h7 h8
  have HB2 := Lib.hid hB
  clear hB
  revert HB2
  generalize W = W3
  intro HB2
  go_upto_region 3 with fail
  have HBz := Lib.hid (HBw.out.trans (HB2.out.mono HBw.out.size))
  obtain ⟨⟨t0, t1⟩, _⟩ := HX.out W3 HB2.out
  obtain ⟨_, _, _, f0, f1, g0, g1⟩ := HA.out W3 HBz.out
  have CR := Lib.hid (HCR.out W3 HBz.out)
  have HA4 := HA
  clear HX HB2 HA HCR CT CL
  go_wp2_with fail
  refine CR.out.mono ?_
  rintro e w4 ⟨v, rfl, hv, hb4⟩
  have HB4 := Lib.hid (HBz.out.trans (hb4.mono HBz.out.size))
  obtain ⟨_, _, iq, _⟩ := HA4.out w4 HB4.out
  have CB4 := Lib.hid (CB.out v w4 hv)
  clear hb4 CB CR t0 t1 f0 f1 g0 g1
  rcases hv with ⟨ao, cap, rfl, hVn⟩ | ⟨r, ro, rc, rfl, hpos, hrl, hrc⟩
  · -- no index at all
    have CN4 := Lib.hid (HNR.out w4 HB4.out)
    have HN0 : Hid (O = none) := HSn.out (fun q hq => by rw [hVn] at hq; exact absurd hq (Nat.not_lt_zero q))
    have HVl : Hid (V.length = 0) := by show _ = _; rw [hVn]; rfl
    clear HSs HSn hVn
    go_wp2_with fail
    refine CB4.out.mono ?_
    rintro e w' ⟨p, fd, hp1, hp2, hp3, rfl, rfl⟩
    obtain rfl : p = 0 := by have := HVl.out; omega
    clear hp1 hp2 hp3
    go_wp2_with fail
    refine CN4.out.mono ?_
    rintro e w' ⟨T, x, rfl, rfl⟩
    go_wp2
    exact ⟨rfl, Or.inr ⟨HN0.out, T, x, rfl⟩, HB4.out⟩
  · have HRC := Lib.hid hrc
    obtain ⟨M, hM⟩ : ∃ M, V.length = M := ⟨_, rfl⟩
    have HMl := Lib.hid hM
    rw [hM] at HSs HSn HRC V256 hpos CB4 ⊢
    clear hrc hM
    go_wp2_with fail
    refine CB4.out.mono ?_
    rintro e w' ⟨p, fd, hp1, hp2, hp3, rfl, rfl⟩
    by_cases hpM : p < M
    · obtain ⟨mm, hm1, hm2⟩ := HSs.out p hpM hp2 hp3
      have hcell := HRC.out p hpM
      rw [hm1] at hcell
      have HM2 := Lib.hid hm2
      have kp : (p : Int) < (M : Int) := by omega
      have kp0 : (0 : Int) ≤ (p : Int) := by omega
      have CR2 := Lib.hid (fun W => require_yes W)
      clear hp1 hp2 hp3 hm1 hm2 HSs HSn HNR HRC iq
      go_wp2_with fail
      refine (CR2.out _).mono ?_
      rintro e w' ⟨rfl, rfl⟩
      go_wp2
      go_ret
      exact ⟨Or.inl ⟨mm, HM2.out, rfl⟩, HB4.out⟩
    · obtain rfl : p = M := by omega
      have CN4 := Lib.hid (HNR.out w4 HB4.out)
      have HN0 : Hid (O = none) := HSn.out (fun q hq => hp2 q hq)
      clear hp1 hp2 hp3 HSs HSn HNR HRC iq
      go_wp2_with fail
      refine CN4.out.mono ?_
      rintro e w' ⟨T, x, rfl, rfl⟩
      go_wp2
      exact ⟨rfl, Or.inr ⟨HN0.out, T, x, rfl⟩, HB4.out⟩
end Go.Proofs.YtabkkpifkkgpeaaDoor
