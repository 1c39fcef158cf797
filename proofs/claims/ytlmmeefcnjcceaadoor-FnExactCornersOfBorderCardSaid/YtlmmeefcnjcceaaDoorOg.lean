/- Contracts of single functions, and plain lemmas, on which the exact laws of this seat rest; each holds under the conditions that it states. -/
import Derived.Test.YtlmmeefcnjcceaaDoorOe
namespace Go.Proofs.YtlmmeefcnjcceaaDoor
set_option linter.unusedVariables false
set_option linter.unusedSimpArgs false
open Go.RowKit Go.Maps

theorem own_formO {w : World} {base n s : Nat} {e : TypeId} {v : Value} {xs : List Value} (h : w.ownsRow base e s v n xs) : ∃ ao cap, v = .slice ao n cap := by
  rcases h.2 with ⟨hv, hn⟩ | ⟨g, cap, cur, hv, _⟩
  · subst hn; exact ⟨_, _, hv⟩
  · exact ⟨_, _, hv⟩
theorem turnFrom_any (a b : Int) (w : World) (h1 : 0 ≤ a ∧ a ≤ 3) (h2 : 0 ≤ b ∧ b ≤ 3) : Calls Tryd.prog 69 #[.int .i64 a, .int .i64 b] w fun e w' => e = .returned (.int .i64 ((a - b + 4) % 4)) ∧ w = w' := by
  go_enter Tryd.func69, Tryd.ntmps69
  go_wp2
  go_ret
  exact ⟨rfl, rfl⟩

/-- the first k turns -/
def tr (s : ByteArray) (k : Nat) : List Value := (List.range k).map fun j => Value.int .i64 (trn s j)
theorem tr_len (s : ByteArray) (k : Nat) : (tr s k).length = k := by simp [tr]
theorem tr_at (s : ByteArray) (k j : Nat) (h : j < k) : (tr s k)[j]? = some (.int .i64 (trn s j)) := by simp [tr, h]
/-- what turns hands back -/
def SaysTu (s : ByteArray) (w : World) (e : Ending) (w' : World) : Prop :=
  ∃ b cap, e = .returned (.slice (some ⟨b, 0, none⟩) s.size cap) ∧ w'.ownsRow w.heap.size 71 1 (.slice (some ⟨b, 0, none⟩) s.size cap) s.size (tr s s.size) ∧ Below w.heap.size w w'

set_option maxHeartbeats 4000000 in
set_option maxRecDepth 100000 in
theorem turns_any (X Y : Int) (s : ByteArray) (g cap : Nat) (w : World) (h1 : 1 ≤ s.size) (h6 : s.size ≤ 600) (hr : RtAt X Y s w g s.size) (hw : ∀ j, j < s.size → 0 ≤ wy s j) :
    Calls Tryd.prog 42 #[.slice (some ⟨g, 0, none⟩) s.size cap] w (SaysTu s w) := by
  obtain ⟨i0, hi, hz0, hz1, hz2⟩ := info_parts infoTu
  obtain ⟨n, hn⟩ : ∃ n, s.size = n := ⟨_, rfl⟩
  have HNs := Lib.hid hn
  have HP := Lib.hid (fun k => prv_cast s k (by omega))
  have HPl := Lib.hid (fun k => prv_lt s k (by omega))
  have HR := Lib.hid hr
  have HW := Lib.hid hw
  have HTd : Hid (∀ k, (wy s k - wy s (prv s k) + 4) % 4 = trn s k) := fun _ => rfl
  unfold SaysTu
  rw [hn] at h1 h6 HP HPl HR HW ⊢
  clear hn hr hw
  go_enter Tryd.func42, Tryd.ntmps42
  go_wp2_with (at_make; refine wpList_make_full _ rfl _ _ 69 rfl w.heap.size 71 i0 (.int .i64 0) 1 Tryd.underlying69 hi hz0 hz1 _ _ _ _ n rfl rfl rfl rfl ?c1 ?c2 (by simp) ?_)
  case c1 => rw [hz2]; omega
  case c2 => unfold maxLen; omega
  intro w1 hown hgr
  rw [toList_madeCells_one] at hown
  have B1 : Hid (Below w.heap.size w w1) := (Below.refl _ _).grown hgr (Nat.le_refl _) (fun k h => by cases h)
  have HO := Lib.hid hown
  clear hown hgr
  go_wp2
  have hl0 := (HO.out.lt w.heap.size rfl).2
  go_loopw [12] (fun iv wr => ∃ k : Nat, k ≤ n ∧ iv = .int .i64 k ∧ Hid (wr.ownsRow w.heap.size 71 1 (.slice (some ⟨w.heap.size, 0, none⟩) n n) n ((List.range k).map (fun i => Value.int .i64 (trn s i)) ++ List.replicate (n - k) (.int .i64 0))) ∧ Hid (Below w.heap.size w wr)) (fun iv _ => n - (intOf iv).toNat)
  case atStart => exact ⟨0, Nat.zero_le _, rfl, by show World.ownsRow _ _ _ _ _ _ _; simpa using HO.out, B1.out⟩
  case round =>
    clear HO B1 hl0
    obtain ⟨k, hk, rfl, HO, HB⟩ := hrel
    have hs0 := HB.out.size
    have hl0 := (HO.out.lt w.heap.size rfl).2
    by_cases hlt : k < n
    · have klt : (k : Int) < (n : Int) := by omega
      have HRw := HR.out.below HB.out
      have hgl := HRw.1
      have c0 := (HRw.2 k hlt).1
      have c1 := (HRw.2 k hlt).2.1
      have c2 := (HRw.2 k hlt).2.2
      have hpl := HPl.out k
      have p0 := (HRw.2 _ hpl).1
      have p1 := (HRw.2 _ hpl).2.1
      have p2 := (HRw.2 _ hpl).2.2
      have hp := HP.out k
      have w0 := HW.out k hlt
      have w1 := (wy_range s k).2
      have w2 := HW.out _ hpl
      have w3 := (wy_range s (prv s k)).2
      have HT := Lib.hid (HTd.out k)
      have hfz := HO.out.frozenAt k
      have hold := HO.out.cellAt k (by omega)
      rw [List.getElem?_append_right (by simp)] at hold
      simp only [List.length_map, List.length_range, Nat.sub_self] at hold
      rw [show n - k = (n - (k + 1)) + 1 from by omega, List.replicate_succ] at hold
      simp only [List.getElem?_cons_zero] at hold
      have hst := HO.out.stored k (.int .i64 (trn s k))
      rw [set_prefix (fun i => Value.int .i64 (trn s i)) _ n k hlt] at hst
      have HS := Lib.hid hst
      obtain ⟨x, hx⟩ : ∃ x, px X s k = x := ⟨_, rfl⟩
      obtain ⟨y, hy⟩ : ∃ x, py Y s k = x := ⟨_, rfl⟩
      obtain ⟨d, hd⟩ : ∃ x, wy s k = x := ⟨_, rfl⟩
      obtain ⟨x2, hx2⟩ : ∃ x, px X s (prv s k) = x := ⟨_, rfl⟩
      obtain ⟨y2, hy2⟩ : ∃ x, py Y s (prv s k) = x := ⟨_, rfl⟩
      obtain ⟨d2, hd2⟩ : ∃ x, wy s (prv s k) = x := ⟨_, rfl⟩
      obtain ⟨t, ht⟩ : ∃ x, trn s k = x := ⟨_, rfl⟩
      rw [ht] at HS
      rw [hd, hd2, ht] at HT
      rw [hx] at c0
      rw [hy] at c1
      rw [hd] at c2 w0 w1
      rw [hx2] at p0
      rw [hy2] at p1
      rw [hd2] at p2 w2 w3
      obtain ⟨p, hpe⟩ : ∃ p, prv s k = p := ⟨_, rfl⟩
      rw [hpe] at hp hpl p0 p1 p2
      clear hst hx hy hd hx2 hy2 hd2 ht HRw hpe
      go_wp2_with fail
      refine (turnFrom_any d d2 _ ⟨w0, w1⟩ ⟨w2, w3⟩).mono ?_
      rintro e w' ⟨rfl, rfl⟩
      rw [HT.out]
      have hss : (wr.setCell ⟨w.heap.size, k, none⟩ (.int .i64 t)).heap.size = wr.heap.size := by simp [World.setCell]
      have B3 := Lib.hid (((HB.out.setCell (p := ⟨w.heap.size, k, none⟩) (Nat.le_refl _) (.int .i64 t)).alloc (by rw [hss]; exact hs0) (.cells #[.int .i64 x, .int .i64 y, .int .i64 d] 67)).alloc (by rw [World.size_alloc, hss]; omega) (.cells #[.int .i64 x2, .int .i64 y2, .int .i64 d2] 67))
      have O3 := Lib.hid ((HS.out.1.alloc (.cells #[.int .i64 x, .int .i64 y, .int .i64 d] 67)).alloc (.cells #[.int .i64 x2, .int .i64 y2, .int .i64 d2] 67))
      clear hss
      go_wp2
      go_roundw
      case rel => exact ⟨k + 1, by omega, by go_num, O3.out, B3.out⟩
      case measure => simp [intOf]; omega
    · obtain rfl : k = n := by omega
      go_wp2
      go_ret
      refine ⟨_, _, rfl, ?_, HB.out⟩
      have := HO.out
      simp only [Nat.sub_self, List.replicate_zero, List.append_nil] at this
      exact this

/-- is a turn among them -/
def hasTr (s : ByteArray) (t : Int) (n : Nat) : Bool := (List.range n).any fun j => decide (trn s j = t)
theorem hasTr_yes {s : ByteArray} {t : Int} {n k : Nat} (hk : k < n) (h : trn s k = t) : hasTr s t n = true := List.any_eq_true.2 ⟨k, List.mem_range.2 hk, decide_eq_true h⟩
theorem hasTr_no {s : ByteArray} {t : Int} {n : Nat} (h : ∀ k, k < n → trn s k ≠ t) : hasTr s t n = false := by
  unfold hasTr
  rw [List.any_eq_false]
  intro k hk
  simpa using h k (List.mem_range.1 hk)

/-- where it is first, or -1 -/
def IdxOf (s : ByteArray) (t : Int) (n : Nat) (r : Int) : Prop := (0 ≤ r ↔ ∃ k, k < n ∧ trn s k = t)
set_option maxHeartbeats 1000000 in
theorem index_turn (s : ByteArray) (t : Int) (b cap n : Nat) (w : World) (h6 : n ≤ 600) (hc : ∀ k, k < n → w.cell? ⟨b, k, none⟩ = some (.int .i64 (trn s k))) :
    Calls Tryd.prog 85 #[.slice (some ⟨b, 0, none⟩) n cap, .int .i64 t] w fun e w' => (∃ r : Int, IdxOf s t n r ∧ e = .returned (.int .i64 r)) ∧ w = w' := by
  have HC := Lib.hid hc
  clear hc
  go_enter Tryd.func85, Tryd.ntmps85
  go_wp2
  go_loop [8] (fun iv => ∃ k : Nat, k ≤ n ∧ iv = .int .i64 k ∧ Hid (∀ j, j < k → trn s j ≠ t)) (fun iv => n - (intOf iv).toNat)
  case atStart => exact ⟨0, Nat.zero_le _, rfl, fun j h => absurd h (Nat.not_lt_zero j)⟩
  case round =>
    obtain ⟨k, hk, rfl, HN⟩ := hrel
    by_cases hlt : k < n
    · have klt : (k : Int) < (n : Int) := by omega
      have c0 := HC.out k hlt
      obtain ⟨x, hx⟩ : ∃ x, trn s k = x := ⟨_, rfl⟩
      rw [hx] at c0
      by_cases ht : t = x
      · have hb : (t == x) = true := beq_iff_eq.2 ht
        have HI : Hid (IdxOf s t n (k : Int)) := ⟨fun _ => ⟨k, hlt, hx.trans ht.symm⟩, fun _ => by omega⟩
        clear hx ht
        go_wp2
        go_ret
        exact ⟨⟨_, HI.out, rfl⟩, rfl⟩
      · have hb : (t == x) = false := by simpa using ht
        have HN2 : Hid (∀ j, j < k + 1 → trn s j ≠ t) := fun j hj => by
          by_cases e : j = k
          · subst e; rw [hx]; exact fun h => ht h.symm
          · exact HN.out j (by omega)
        clear hx ht
        go_wp2
        go_round
        case rel => exact ⟨k + 1, by omega, by go_num, HN2.out⟩
        case measure => simp [intOf]; omega
    · obtain rfl : k = n := by omega
      have HI : Hid (IdxOf s t k (-1)) := ⟨fun h => by omega, fun ⟨j, hj, e⟩ => absurd e (HN.out j hj)⟩
      go_wp2
      go_ret
      exact ⟨⟨_, HI.out, rfl⟩, rfl⟩
theorem contains_turn (s : ByteArray) (t : Int) (b cap n : Nat) (w : World) (h6 : n ≤ 600) (hc : ∀ k, k < n → w.cell? ⟨b, k, none⟩ = some (.int .i64 (trn s k))) :
    Calls Tryd.prog 68 #[.slice (some ⟨b, 0, none⟩) n cap, .int .i64 t] w fun e w' => e = .returned (.bool (hasTr s t n)) ∧ w = w' := by
  have C := Lib.hid (index_turn s t b cap n w h6 hc)
  clear hc
  go_enter Tryd.func68, Tryd.ntmps68
  go_wp2_with fail
  refine C.out.mono ?_
  rintro e w' ⟨⟨r, hr, rfl⟩, rfl⟩
  have HR := Lib.hid hr
  clear hr
  go_wp2_with fail
  go_ret
  refine ⟨ret_bool ?_, rfl⟩
  by_cases h : ∃ k, k < n ∧ trn s k = t
  · have h0 := HR.out.2 h
    obtain ⟨k, hk, e⟩ := h
    rw [hasTr_yes hk e]
    exact decide_eq_true h0
  · rw [hasTr_no (fun k hk e => h ⟨k, hk, e⟩)]
    exact decide_eq_false (fun h0 => h (HR.out.1 h0))
end Go.Proofs.YtlmmeefcnjcceaaDoor
