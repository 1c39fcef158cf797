/- Contracts of single functions, and plain lemmas, on which the exact laws of this seat rest; each holds under the conditions that it states. -/
import Derived.Test.YtabkkpifkkgpeaaDoorSE
import Derived.Test.YtabkkpifkkgpeaaDoorPx
import Derived.Test.YtabkkpifkkgpeaaDoorLi
import Derived.Test.YtabkkpifkkgpeaaDoorCc
import Derived.Test.YtabkkpifkkgpeaaDoorIs
namespace Go.Proofs.YtabkkpifkkgpeaaDoor
set_option linter.unusedVariables false
set_option linter.unusedSimpArgs false
open Go.RowKit
attribute [local go_sem] Oper.semAt_some

/-! ### what the laws of drawn pictures share -/
/-- a picture in a variable -/
structure PV (W : World) (b : Nat) (v : Value) (ss : List ByteArray) : Prop where
  c : W.heap[b]? = some (.cells #[v] 42 (0, 0))
  sl : Sl W v ss
theorem PV.below {W W' : World} {b : Nat} {v : Value} {ss : List ByteArray} (h : PV W b v ss) (hb : Below W.heap.size W W') : PV W' b v ss :=
  ⟨(hb.block b (Array.getElem?_eq_some_iff.1 h.c).1).trans h.c, h.sl.below hb⟩
theorem PV.alloc {W : World} {b : Nat} {v : Value} {ss : List ByteArray} (h : PV W b v ss) (o : Obj) : PV (W.alloc o) b v ss := h.below (Joins.below_alloc1 W o)
theorem PV.cell {W : World} {b : Nat} {v : Value} {ss : List ByteArray} (h : PV W b v ss) : W.cell? ⟨b, 0, none⟩ = some v := cell_of_one h.c
theorem PV.new {W : World} {v : Value} {ss : List ByteArray} (h : Sl W v ss) : PV (W.alloc (.cells #[v] 42)) W.heap.size v ss :=
  ⟨heap_alloc_last W _, h.below (Joins.below_alloc1 W _)⟩

theorem Sl.row {W : World} {g n cap : Nat} {ss : List ByteArray} (h : Sl W (.slice (some ⟨g, 0, none⟩) n cap) ss) (i : Nat) (hi : i < ss.length) : W.cell? ⟨g, i, none⟩ = some (.string (ss.getD i ByteArray.empty)) := by
  rcases h with ⟨_, _, _, rfl⟩ | ⟨b, off, c, e, h1, h2, h3⟩
  · cases hi
  · injection e with e1 e2 e3
    injection e1 with e1
    injection e1 with e4 e5
    subst e4
    subst e5
    have := h3 i hi
    rwa [Nat.zero_add] at this
theorem Sl.len {W : World} {ao : Option Addr} {n cap : Nat} {ss : List ByteArray} (h : Sl W (.slice ao n cap) ss) : n = ss.length := by
  rcases h with ⟨_, _, e, rfl⟩ | ⟨b, off, c, e, _⟩
  · injection e with _ e2 _
  · injection e with _ e2 _

/-- the number that a byte, or an index behind the bytes, chooses -/
def b10F (ns : List Nat) (k n : Nat) : Nat := if n ≤ 1 then 0 else if k < ns.length then ns.getD k 0 % n else (k * 37 + 11) % n
theorem b10F_lt (ns : List Nat) (k n : Nat) (hn : 1 ≤ n) : b10F ns k n < n := by
  unfold b10F
  split
  · omega
  · split <;> exact Nat.mod_lt _ (by omega)
set_option maxHeartbeats 1000000 in
set_option maxRecDepth 100000 in
theorem b10At_any (v : Value) (ns : List Nat) (k n : Nat) (w : World) (hs : SlY w v ns) (hby : ∀ i, ns.getD i 0 < 256) (hN : ns.length ≤ maxLen) (hn : n ≤ 1000) (hk : k ≤ 1000) :
    Calls Tryd.prog 29 #[v, .int .i64 (k : Int), .int .i64 (n : Int)] w (fun e w' => e = .returned (.int .i64 ((b10F ns k n : Nat) : Int)) ∧ w = w') := by
  unfold maxLen at hN
  by_cases h1 : n ≤ 1
  · have e : b10F ns k n = 0 := by unfold b10F; rw [if_pos h1]
    rw [e]
    obtain ⟨ao, cap, rfl⟩ := hs.form
    have h2 : (n : Int) ≤ 1 := by omega
    clear hs h1
    go_enter Tryd.func29, Tryd.ntmps29
    go_wp2_with fail
    go_ret
    exact ⟨rfl, rfl⟩
  have h3 : ¬ (n : Int) ≤ 1 := by omega
  have h4 : ¬ (n : Int) = 0 := by omega
  by_cases h2 : k < ns.length
  · rcases hs with ⟨ao, cap, rfl, rfl⟩ | ⟨b, off, cap, rfl, h0, hb, hc⟩
    · cases h2
    have hc1 := hc k h2
    have e : ((b10F ns k n : Nat) : Int) = ((ns.getD k 0 : Nat) : Int) % (n : Int) := by unfold b10F; rw [if_neg h1, if_pos h2]; exact Int.natCast_emod _ _
    rw [e]
    obtain ⟨x, hx⟩ : ∃ x, ns.getD k 0 = x := ⟨_, rfl⟩
    have hx2 := hby k
    rw [hx] at hc1 hx2 ⊢
    obtain ⟨N, hNN⟩ : ∃ N, ns.length = N := ⟨_, rfl⟩
    rw [hNN] at hN h2 ⊢
    clear hc hby e hx hNN h0 h1
    have hm : (x : Int).tmod n = (x : Int) % n := Int.tmod_eq_emod_of_nonneg (by omega)
    have hk3 : (k : Int) < N := by omega
    go_enter Tryd.func29, Tryd.ntmps29
    go_wp2_with fail
    go_ret
    exact ⟨rfl, rfl⟩
  · have e : ((b10F ns k n : Nat) : Int) = ((k : Int) * 37 + 11) % (n : Int) := by unfold b10F; rw [if_neg h1, if_neg h2]; exact Int.natCast_emod _ _
    rw [e]
    obtain ⟨ao, cap, rfl⟩ := hs.form
    have h5 : ¬ (k : Int) < (ns.length : Int) := by omega
    have hm : ((k : Int) * 37 + 11).tmod n = ((k : Int) * 37 + 11) % n := Int.tmod_eq_emod_of_nonneg (by omega)
    clear hs e h1
    go_enter Tryd.func29, Tryd.ntmps29
    go_wp2_with fail
    go_ret
    exact ⟨rfl, rfl⟩
theorem b10Long_any (v0 v1 : Value) (ns ms : List Nat) (w : World) (h0 : SlY w v0 ns) (h1 : SlY w v1 ms) : Calls Tryd.prog 19 #[v0, v1] w (fun e w' => e = .returned (.bool (decide (1048576 < ns.length) || decide (1048576 < ms.length))) ∧ w = w') := by
  obtain ⟨ao, cap, rfl⟩ := h0.form
  obtain ⟨ao1, cap1, rfl⟩ := h1.form
  clear h0 h1
  by_cases h : 1048576 < ns.length
  · rw [decide_eq_true h, Bool.true_or]
    go_enter Tryd.func19, Tryd.ntmps19
    go_wp2_with fail
    go_ret
    exact ⟨rfl, rfl⟩
  · rw [decide_eq_false h, Bool.false_or]
    go_enter Tryd.func19, Tryd.ntmps19
    go_wp2_with fail
    go_ret
    exact ⟨ret_bool (by rw [decide_eq_false (show ¬ (1048576 : Int) < (ns.length : Int) by omega), Bool.false_or]; exact decide_eq_decide.2 (by omega)), rfl⟩

set_option maxHeartbeats 1000000 in
set_option maxRecDepth 100000 in
/-- two equal pictures -/
theorem b10Same_yes (x y : Value) (ss : List ByteArray) (w : World) (hx : Sl w x ss) (hy : Sl w y ss) (h1 : 1 ≤ ss.length) (h16 : ss.length ≤ 16) : Calls Tryd.prog 33 #[.agg #[x], .agg #[y]] w (SaysB true w) := by
  rcases hx with ⟨_, _, _, rfl⟩ | ⟨b, off, cap, rfl, hpos, hb, hc⟩
  · simp at h1
  rcases hy with ⟨_, _, _, rfl⟩ | ⟨b2, off2, cap2, rfl, hpos2, hb2, hc2⟩
  · simp at h1
  obtain ⟨W0, hW0⟩ : ∃ W0, (w.alloc (.cells #[.slice (some ⟨b, off, none⟩) ss.length cap] 42)).alloc (.cells #[.slice (some ⟨b2, off2, none⟩) ss.length cap2] 42) = W0 := ⟨_, rfl⟩
  have hb0 : Below w.heap.size w W0 := by rw [← hW0]; exact Joins.below_alloc2 w _ _
  have hq0 : W0.heap[w.heap.size]? = some (.cells #[.slice (some ⟨b, off, none⟩) ss.length cap] 42 (0, 0)) := by
    rw [← hW0, Below.heap_alloc _ _ _ (by simp)]; exact heap_alloc_last w _
  have hq1 : W0.heap[w.heap.size + 1]? = some (.cells #[.slice (some ⟨b2, off2, none⟩) ss.length cap2] 42 (0, 0)) := by
    rw [← hW0]; exact heap_alloc2_new _ _ _
  have hs0 : W0.heap.size = w.heap.size + 1 + 1 := by rw [← hW0]; simp
  obtain ⟨n, hn⟩ : ∃ n, ss.length = n := ⟨_, rfl⟩
  rw [hn] at hq0 hq1 h1 h16 hc hc2 hW0 ⊢
  have HC : Hid (∀ W k, k < n → Below W0.heap.size W0 W → W.cell? ⟨b, off + k, none⟩ = some (.string (ss.getD k ByteArray.empty)) ∧ W.cell? ⟨b2, off2 + k, none⟩ = some (.string (ss.getD k ByteArray.empty)) ∧ W.cell? ⟨w.heap.size, 0, none⟩ = some (.slice (some ⟨b, off, none⟩) n cap) ∧ W.cell? ⟨w.heap.size + 1, 0, none⟩ = some (.slice (some ⟨b2, off2, none⟩) n cap2)) := fun W k hk hbl =>
    ⟨((hb0.trans (hbl.mono hb0.size)).cell (p := ⟨b, off + k, none⟩) hb).trans (hc k hk), ((hb0.trans (hbl.mono hb0.size)).cell (p := ⟨b2, off2 + k, none⟩) hb2).trans (hc2 k hk), cell_of_one ((hbl.block _ (by omega)).trans hq0), cell_of_one ((hbl.block _ (by omega)).trans hq1)⟩
  have HW := Lib.hid hW0
  have HB := Lib.hid hb0
  clear hq0 hq1 hc hc2 hb hb2 hW0 hb0 hs0 hn hpos hpos2
  go_enter Tryd.func33, Tryd.ntmps33
  go_wp2_with fail
  rw [HW.out]
  go_loopw [5] (fun i wr => ∃ k : Nat, k ≤ n ∧ i = .int .i64 k ∧ Hid (Below W0.heap.size W0 wr)) (fun i _ => n - (intOf i).toNat)
  case atStart => exact ⟨0, Nat.zero_le _, rfl, Lib.hid (Below.refl _ _)⟩
  case round =>
    obtain ⟨k, hk, rfl, hbel⟩ := hrel
    by_cases hlt : k < n
    · obtain ⟨c0, c1, c2, c3⟩ := HC.out _ k hlt hbel.out
      obtain ⟨s, hs⟩ : ∃ s, ss.getD k ByteArray.empty = s := ⟨_, rfl⟩
      rw [hs] at c0 c1
      have k0 : (0 : Int) ≤ (k : Int) := by omega
      have k1 : (k : Int) < (n : Int) := by omega
      clear hs
      go_wp2
      go_quiet (fail)
      go_wp2
      go_roundw
      case rel => exact ⟨k + 1, by omega, by go_num, Lib.hid (⟨hbel.out.os, hbel.out.tape, hbel.out.output, hbel.out.size, hbel.out.block⟩)⟩
      case measure => simp [intOf]; omega
    · obtain rfl : n = k := by omega
      obtain ⟨c0, c1, c2, c3⟩ := HC.out _ (n - 1) (by omega) hbel.out
      have h0 : 0 < n := by omega
      go_wp2
      go_ret
      exact ⟨rfl, HB.out.trans (hbel.out.mono HB.out.size)⟩

theorem b10Black_any (v : Value) (ss : List ByteArray) (x y : Int) (w : World) (hv : Sl w v ss) (hok : validB ss = true) : Calls Tryd.prog 26 #[.agg #[v], .int .i64 x, .int .i64 y] w (SaysB (pixI ss x y) w) := by
  have V := vp_of hok
  have hb0 := Joins.below_alloc1 w (.cells #[v] 42)
  have hc0 := cell_of_one (heap_alloc_last w (.cells #[v] 42))
  have C := Lib.hid (spec_PixelAt v ss x y (w.alloc (.cells #[v] 42)) (by have := V.n16; unfold maxLen; omega) (fun s hs => by
    obtain ⟨j, hj, rfl⟩ := List.getElem_of_mem hs
    have h1 := (V.rows j hj).1
    have h2 := V.w16
    rw [List.getD_eq_getElem?_getD, List.getElem?_eq_getElem hj] at h1
    have h3 : (ss[j]'hj).size = (row0 ss).size := h1
    unfold maxLen; omega) (hv.below hb0))
  have e1 : pixVal ss x y = pixI ss x y := by unfold pixVal; rw [hok]; rfl
  have e2 : pixI ss x y = true → pixOk ss x y = true := fun h => by
    unfold pixOk; rw [hok, Bool.true_and]
    unfold pixI at h
    simp only [Bool.and_eq_true] at h
    exact h.1
  rw [e1] at C
  obtain ⟨r, hr⟩ : ∃ r, pixI ss x y = r := ⟨_, rfl⟩
  obtain ⟨o, ho⟩ : ∃ o, pixOk ss x y = o := ⟨_, rfl⟩
  rw [hr, ho] at C e2
  rw [hr]
  unfold SaysBB at C
  have HB := Lib.hid hb0
  clear hr ho e1 hv hok V hb0
  go_enter Tryd.func26, Tryd.ntmps26
  go_wp2_with fail
  refine C.out.mono ?_
  rintro e w' ⟨rfl, hb⟩
  have HB2 := Lib.hid (HB.out.trans (hb.mono HB.out.size))
  clear hb C
  cases o with
  | false =>
    obtain rfl : r = false := by cases r with | false => rfl | true => exact absurd (e2 rfl) (by decide)
    clear e2
    go_wp2
    go_ret
    exact ⟨rfl, HB2.out⟩
  | true =>
    clear e2
    go_wp2
    go_ret
    exact ⟨rfl, HB2.out⟩

/-! ### plain facts -/
theorem pixI_mk {a b : Nat} {f : Nat → Nat → Bool} {x y : Nat} (hx : x < a) (hy : y < b) : pixI (mkPic a b f) (x : Int) (y : Int) = f y x := by
  have h1 : (row0 (mkPic a b f)).size = a := mkPic_row0 _ _ _ (by omega)
  have h2 : (mkPic a b f).length = b := mkPic_len _ _ _
  have h3 := mkPic_pix a b f hy hx
  unfold pixI
  rw [h1, h2]
  have h4 : insB a b (x : Int) (y : Int) = true := by
    unfold insB inB
    simp only [Bool.and_eq_true, decide_eq_true_eq]
    omega
  rw [h4, Bool.true_and, Int.toNat_natCast, Int.toNat_natCast]
  exact h3
theorem bs_none {W : Nat} : ∀ k, bs W k = 0 ↔ ∀ x, x < k → W.testBit x = false
  | 0 => ⟨fun _ x hx => by omega, fun _ => rfl⟩
  | k + 1 => by
    have ih := bs_none (W := W) k
    have hs : bs W (k + 1) = bs W k + (if W.testBit k = true then 1 else 0) := rfl
    rw [hs]
    constructor
    · intro h x hx
      have h1 : bs W k = 0 := by omega
      by_cases e : x < k
      · exact (ih.1 h1) x e
      · obtain rfl : x = k := by omega
        cases hb : W.testBit x with
        | false => rfl
        | true => rw [hb] at h; simp at h
    · intro h
      rw [ih.2 (fun x hx => h x (by omega)), h k (by omega)]
      rfl
theorem rs_none {g : Nat → Nat} : ∀ n, rs g n = 0 ↔ ∀ y, y < n → bs (g y) 16 = 0
  | 0 => ⟨fun _ y hy => by omega, fun _ => rfl⟩
  | n + 1 => by
    rw [rs_succ]
    constructor
    · intro h y hy
      by_cases e : y < n
      · exact ((rs_none n).1 (by omega)) y e
      · obtain rfl : y = n := by omega
        omega
    · intro h
      rw [(rs_none n).2 (fun y hy => h y (by omega)), h n (by omega)]
theorem count_zero {ss : List ByteArray} (hok : validB ss = true) : cbV ss = 0 ↔ ∀ y, y < ss.length → ∀ x, x < (row0 ss).size → pixF ss y x = false := by
  have V := vp_of hok
  unfold cbV
  rw [if_pos hok]
  have e : (((rs (wordsOf ss) ss.length : Nat) : Int) = 0) ↔ rs (wordsOf ss) ss.length = 0 := by omega
  rw [e, rs_none]
  constructor
  · intro h y hy x hx
    have h1 := (bs_none 16).1 (h y hy) x (by have := V.w16; omega)
    rwa [words_at V y x hy hx] at h1
  · intro h y hy
    refine (bs_none 16).2 fun x hx => ?_
    by_cases e : x < (row0 ss).size
    · rw [words_at V y x hy e]; exact h y hy x e
    · have h1 := words_lt_pow V y
      have h2 : 2 ^ (row0 ss).size ≤ 2 ^ x := Nat.pow_le_pow_right (by omega) (by omega)
      exact Nat.testBit_lt_two_pow (by omega)
theorem inside_iff {ss tt : List ByteArray} (h : likeB ss tt = true) : insideP ss tt = true ↔ ∀ y, y < ss.length → ∀ x, x < (row0 ss).size → pixF ss y x = true → pixF tt y x = true := by
  unfold insideP
  rw [h, Bool.true_and]
  constructor
  · intro hs y hy x hx hp
    cases hq : pixF tt y x with
    | true => rfl
    | false =>
      have h3 : (y + 1) * (row0 ss).size ≤ ss.length * (row0 ss).size := Nat.mul_le_mul_right _ hy
      rw [Nat.add_mul, Nat.one_mul, Nat.mul_comm ss.length] at h3
      have := subB_no (xs := pixL ss (row0 ss).size ((row0 ss).size * ss.length)) (ys := pixL tt (row0 ss).size ((row0 ss).size * ss.length)) (i := y * (row0 ss).size + x) (by rw [pixL_len]; omega) (by rw [pixL_at ss _ _ y x hy hx]; exact hp) (by rw [pixL_at tt _ _ y x hy hx]; exact hq)
      rw [this] at hs
      cases hs
  · intro hs
    unfold subB
    rw [List.all_eq_true]
    intro i hi
    rw [pixL_len, List.mem_range] at hi
    have hw : 0 < (row0 ss).size := by
      rcases Nat.eq_zero_or_pos (row0 ss).size with e | e
      · rw [e, Nat.zero_mul] at hi; omega
      · exact e
    have hy : i / (row0 ss).size < ss.length := Nat.div_lt_of_lt_mul hi
    have hx : i % (row0 ss).size < (row0 ss).size := Nat.mod_lt _ hw
    have e : i = i / (row0 ss).size * (row0 ss).size + i % (row0 ss).size := by rw [Nat.mul_comm]; exact (Nat.div_add_mod i _).symm
    rw [e, pixL_at ss _ _ _ _ hy hx, pixL_at tt _ _ _ _ hy hx]
    have := hs _ hy _ hx
    cases hp : pixF ss (i / (row0 ss).size) (i % (row0 ss).size) with
    | false => rfl
    | true => rw [this hp]; rfl
end Go.Proofs.YtabkkpifkkgpeaaDoor
