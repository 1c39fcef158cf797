/- Contracts of single functions, and plain lemmas, on which the exact laws of this seat rest; each holds under the conditions that it states. -/
import Derived.Test.YtnmnlbgialolhaaDoorPb
import Derived.Shelf.Spec.TrailingZeros
import Derived.Test.YtnmnlbgialolhaaDoorI1
import Derived.Deep.RegionHeld3
namespace Go.Proofs.YtnmnlbgialolhaaDoor
set_option linter.unusedVariables false
set_option linter.unusedSimpArgs false
open Go.RowKit

/-! ### runs of a row -/
/-- how many ones end at a place -/
def bk (r : Nat → Bool) : Nat → Nat
  | 0 => 0
  | e + 1 => if r e then bk r e + 1 else 0
/-- the runs that end before a place: where they begin, how long they are -/
def rl (r : Nat → Bool) : Nat → List (Nat × Nat)
  | 0 => []
  | e + 1 => rl r e ++ (if 0 < bk r e ∧ r e = false then [(e - bk r e, bk r e)] else [])
theorem bk_le (r : Nat → Bool) : ∀ e, bk r e ≤ e
  | 0 => Nat.le_refl _
  | e + 1 => by
    have := bk_le r e
    unfold bk
    split <;> omega
theorem rl_len (r : Nat → Bool) : ∀ e, (rl r e).length ≤ e
  | 0 => Nat.le_refl _
  | e + 1 => by
    have := rl_len r e
    unfold rl
    rw [List.length_append]
    split
    · simp; omega
    · simp; omega
theorem rl_succ (r : Nat → Bool) (e : Nat) : rl r (e + 1) = rl r e ++ (if 0 < bk r e ∧ r e = false then [(e - bk r e, bk r e)] else []) := rfl
theorem bk_succ (r : Nat → Bool) (e : Nat) : bk r (e + 1) = if r e then bk r e + 1 else 0 := rfl
section
variable {r : Nat → Bool}
theorem rl_gap {t : Nat} (hb : bk r t = 0) : ∀ d, (∀ i, t ≤ i → i < t + d → r i = false) → rl r (t + d) = rl r t ∧ bk r (t + d) = 0
  | 0, _ => ⟨rfl, hb⟩
  | d + 1, h => by
    obtain ⟨h1, h2⟩ := rl_gap hb d (fun i a b => h i a (by omega))
    have h3 := h (t + d) (by omega) (by omega)
    constructor
    · rw [show t + (d + 1) = t + d + 1 from rfl, rl_succ, h1, h2, if_neg (by omega), List.append_nil]
    · rw [show t + (d + 1) = t + d + 1 from rfl, bk_succ, h3]
      rfl
theorem rl_run {s : Nat} (hb : bk r s = 0) : ∀ l, (∀ i, s ≤ i → i < s + l → r i = true) → rl r (s + l) = rl r s ∧ bk r (s + l) = l
  | 0, _ => ⟨rfl, hb⟩
  | l + 1, h => by
    obtain ⟨h1, h2⟩ := rl_run hb l (fun i a b => h i a (by omega))
    have h3 := h (s + l) (by omega) (by omega)
    constructor
    · rw [show s + (l + 1) = s + l + 1 from rfl, rl_succ, h1, h3, if_neg (by simp), List.append_nil]
    · rw [show s + (l + 1) = s + l + 1 from rfl, bk_succ, h3, h2]
      rfl
theorem rl_end {s l : Nat} (h2 : bk r (s + l) = l) (hl : 0 < l) (h3 : r (s + l) = false) : rl r (s + l + 1) = rl r (s + l) ++ [(s, l)] ∧ bk r (s + l + 1) = 0 := by
  constructor
  · rw [rl_succ, h2, h3, if_pos ⟨hl, rfl⟩, Nat.add_sub_cancel]
  · rw [bk_succ, h3]
    rfl
theorem rl_next {t s l : Nat} (hb : bk r t = 0) (hts : t ≤ s) (h1 : ∀ i, t ≤ i → i < s → r i = false) (hl : 0 < l) (h2 : ∀ i, s ≤ i → i < s + l → r i = true) (h3 : r (s + l) = false) :
    rl r (s + l + 1) = rl r t ++ [(s, l)] ∧ bk r (s + l + 1) = 0 := by
  obtain ⟨d, rfl⟩ : ∃ d, s = t + d := ⟨s - t, by omega⟩
  obtain ⟨a1, a2⟩ := rl_gap hb d h1
  obtain ⟨b1, b2⟩ := rl_run a2 l h2
  obtain ⟨c1, c2⟩ := rl_end b2 hl h3
  exact ⟨by rw [c1, b1, a1], c2⟩
theorem rl_white {t : Nat} (hb : bk r t = 0) (h : r t = false) : rl r (t + 1) = rl r t ∧ bk r (t + 1) = 0 :=
  rl_gap hb 1 (fun i a b => by obtain rfl : i = t := by omega
                               exact h)
end
theorem rl_congr {r q : Nat → Bool} : ∀ t, (∀ i, i < t → r i = q i) → rl r t = rl q t ∧ bk r t = bk q t
  | 0, _ => ⟨rfl, rfl⟩
  | t + 1, h => by
    obtain ⟨h1, h2⟩ := rl_congr t (fun i hi => h i (by omega))
    have h3 := h t (by omega)
    constructor
    · rw [rl_succ, rl_succ, h1, h2, h3]
    · rw [bk_succ, bk_succ, h2, h3]

/-! ### bits of a word -/
theorem ctz_low32 {x : Nat} (h0 : x ≠ 0) (h : x < 4294967296) : x.testBit (Lib.ctz 32 x) = true ∧ ∀ i, x.testBit i = true → Lib.ctz 32 x ≤ i := by
  unfold Lib.ctz
  rw [if_neg h0]
  obtain ⟨m, hm, hk⟩ := Lib.ctzFrom_spec 32 x (by omega) (by omega)
  obtain ⟨k, hkk⟩ : ∃ k, Lib.ctzFrom 32 x = k := ⟨_, rfl⟩
  rw [hkk] at hm ⊢
  rw [hm, Nat.mul_comm]
  refine ⟨by rw [Nat.testBit_mul_two_pow]; simp [Nat.testBit_zero], fun i hi => ?_⟩
  rw [Nat.testBit_mul_two_pow, Bool.and_eq_true, decide_eq_true_eq] at hi
  exact hi.1
/-- a word without its lowest bits -/
def hiW (W t : Nat) : Nat := (W >>> t) <<< t
theorem hiW_bit (W t j : Nat) : (hiW W t).testBit j = (decide (t ≤ j) && W.testBit j) := by
  unfold hiW
  rw [Nat.testBit_shiftLeft, Nat.testBit_shiftRight]
  by_cases h : t ≤ j
  · rw [show t + (j - t) = j from by omega]
  · simp [h]
theorem hiW_zero (W : Nat) : hiW W 0 = W := by simp [hiW]
theorem hiW_le (W t : Nat) : hiW W t ≤ W := by
  unfold hiW
  rw [Nat.shiftLeft_eq, Nat.shiftRight_eq_div_pow]
  exact Nat.div_mul_le_self _ _
/-- without some bits -/
def lessW (x m : Nat) : Nat := x ^^^ (x &&& m)
theorem lessW_bit (x m j : Nat) : (lessW x m).testBit j = (x.testBit j && !m.testBit j) := by
  unfold lessW
  rw [Nat.testBit_xor, Nat.testBit_and]
  cases x.testBit j <;> cases m.testBit j <;> rfl

structure RunW (W t s l : Nat) : Prop where
  ts : t ≤ s
  l0 : 0 < l
  sl : s + l ≤ 16
  gap : ∀ i, t ≤ i → i < s → W.testBit i = false
  run : ∀ i, s ≤ i → i < s + l → W.testBit i = true
  off : W.testBit (s + l) = false
  rest : lessW (hiW W t) ((2 ^ l - 1) <<< s) = hiW W (s + l + 1)

theorem run_step {W t s l : Nat} (hW : W < 65536) (h0 : hiW W t ≠ 0) (hs : Lib.ctz 32 (hiW W t) = s) (hl : Lib.ctz 32 (4294967295 - hiW W t >>> s) = l) : RunW W t s l := by
  have hle := hiW_le W t
  obtain ⟨s1, s2⟩ := ctz_low32 h0 (by omega)
  rw [hs] at s1 s2
  rw [hiW_bit, Bool.and_eq_true, decide_eq_true_eq] at s1
  have hA : hiW W t >>> s < 65536 := by
    rw [Nat.shiftRight_eq_div_pow]
    exact Nat.lt_of_le_of_lt (Nat.div_le_self _ _) (by omega)
  have bA : ∀ j, (hiW W t >>> s).testBit j = W.testBit (s + j) := fun j => by
    rw [Nat.testBit_shiftRight, hiW_bit]
    simp [show t ≤ s + j from by omega]
  obtain ⟨A, hAe⟩ : ∃ A, hiW W t >>> s = A := ⟨_, rfl⟩
  rw [hAe] at hA bA hl
  have bB : ∀ j, (4294967295 - A).testBit j = (decide (j < 32) && !A.testBit j) := fun j => by
    have := Nat.testBit_two_pow_sub_succ (x := A) (n := 32) (by omega) j
    rwa [show 2 ^ 32 - (A + 1) = 4294967295 - A from by omega] at this
  obtain ⟨l1, l2⟩ := ctz_low32 (x := 4294967295 - A) (by omega) (by omega)
  rw [hl] at l1 l2
  rw [bB, Bool.and_eq_true, decide_eq_true_eq] at l1
  have big : ∀ i, 16 ≤ i → W.testBit i = false := fun i hi => Nat.testBit_lt_two_pow (Nat.lt_of_lt_of_le hW (by
    have : 2 ^ 16 ≤ 2 ^ i := Nat.pow_le_pow_right (by omega) hi
    omega))
  have run : ∀ i, s ≤ i → i < s + l → W.testBit i = true := fun i hi hj => by
    cases e : W.testBit i with
    | true => rfl
    | false =>
      have h1 := l2 (i - s) (by
        rw [bB, bA, show s + (i - s) = i from by omega, e]
        have : i - s < 32 := by omega
        simp [this])
      omega
  have off : W.testBit (s + l) = false := by
    have := l1.2
    rw [bA] at this
    simpa using this
  have l0 : 0 < l := by
    apply Nat.pos_of_ne_zero
    intro e
    rw [e, Nat.add_zero, s1.2] at off
    cases off
  have gap : ∀ i, t ≤ i → i < s → W.testBit i = false := fun i hi hj => by
    cases e : W.testBit i with
    | false => rfl
    | true =>
      have := s2 i (by rw [hiW_bit, e]; simp [hi])
      omega
  have sl : s + l ≤ 16 := by
    apply Nat.le_of_not_lt
    intro h
    have h1 := run (s + l - 1) (by omega) (by omega)
    rw [big _ (by omega)] at h1
    cases h1
  refine ⟨s1.1, l0, sl, gap, run, off, ?_⟩
  apply Nat.eq_of_testBit_eq
  intro j
  have bM : ((2 ^ l - 1) <<< s).testBit j = (decide (s ≤ j) && decide (j - s < l)) := by
    rw [Nat.testBit_shiftLeft, Nat.testBit_two_pow_sub_one]
  rw [lessW_bit, hiW_bit, hiW_bit, bM]
  by_cases h1 : j < s
  · by_cases h2 : t ≤ j
    · rw [gap j h2 h1]; simp
    · have : ¬ s + l + 1 ≤ j := by omega
      simp [h2, this]
  · by_cases h2 : j < s + l
    · have a1 : s ≤ j := by omega
      have a2 : j - s < l := by omega
      have a3 : ¬ s + l + 1 ≤ j := by omega
      simp [a1, a2, a3]
    · by_cases h3 : j = s + l
      · subst h3
        rw [off]
        simp
      · have a1 : ¬ j - s < l := by omega
        have a2 : s + l + 1 ≤ j := by omega
        have a3 : t ≤ j := by omega
        simp [a1, a2, a3]
/-- no bits are left -/
theorem run_none {W t : Nat} (h0 : hiW W t = 0) : ∀ i, t ≤ i → W.testBit i = false := fun i hi => by
  have h := hiW_bit W t i
  rw [h0] at h
  simp [hi] at h
  exact h
end Go.Proofs.YtnmnlbgialolhaaDoor

/- Contracts of single functions, and plain lemmas, on which the exact laws of this seat rest; each holds under the conditions that it states. -/
namespace Go.Proofs.YtnmnlbgialolhaaDoor
set_option linter.unusedVariables false
set_option linter.unusedSimpArgs false
open Go.RowKit

/-! ### rows of rows of numbers -/
theorem grown_cell (w : World) (a : Addr) (u : Value) : w.grownBy (w.setCell a u) (some a.block) :=
  ⟨rfl, rfl, rfl, by simp, fun k _ hk => heap_setCell_other w a k u (fun e => hk (by rw [e]))⟩

set_option maxHeartbeats 1000000 in
theorem markInt64G (base : Nat) (v : Value) (ns : List Int) (k : Nat) (w : World) (hN : ns.length ≤ 1048576) (hk : k ≤ 1048576) (hv : OwnN w base v ns) :
    Calls Tryd.prog 99 #[v, .int .i64 k] w (fun e w' => e = .returned (.int .i64 ((k + ns.length : Nat) : Int)) ∧ OwnN w' base v (marksN k ns.length) ∧ w.grownBy w' v.ownBlock) := by
  rcases Joins.ownsRow_forms hv with ⟨rfl, h0⟩ | ⟨g, cap, rfl⟩
  · obtain rfl := List.length_eq_zero_iff.1 h0
    clear hv
    go_enter Tryd.func99, Tryd.ntmps99
    go_wp2
    refine wp_loop_rounds 1 ?_; rw [rounds_succ]
    go_wp2
    go_ret
    exact ⟨rfl, OwnN.nil _ _, World.grownBy.refl _ _⟩
  · have HH0 := Lib.hid (halfN_zero k ns)
    have HHf := Lib.hid (halfN_full k ns)
    have HAt := Lib.hid (halfN_at k ns)
    have HSet := Lib.hid (halfN_set k ns)
    have hgb : base ≤ g := (hv.lt g rfl).1
    unfold OwnN at hv ⊢
    rw [marksN_len]
    obtain ⟨n, hn⟩ : ∃ n, ns.length = n := ⟨_, rfl⟩
    rw [hn] at HHf HAt HSet hv hN ⊢
    rw [← HH0.out] at hv
    have HV := Lib.hid hv
    clear hv hn
    go_enter Tryd.func99, Tryd.ntmps99
    go_wp2
    go_loopw [1, 5] (fun kv iv wr => ∃ j : Nat, j ≤ n ∧ iv = .int .i64 j ∧ kv = .int .i64 ((k + j : Nat) : Int) ∧ wr.ownsRow base 2 1 (.slice (some ⟨g, 0, none⟩) n cap) n (halfN k ns j) ∧ w.grownBy wr (some g)) (fun _ iv _ => n - (intOf iv).toNat)
    case atStart => exact ⟨0, Nat.zero_le _, rfl, rfl, HV.out, World.grownBy.refl _ _⟩
    case round =>
      clear HV
      obtain ⟨j, hj, rfl, rfl, hown, hbel⟩ := hrel
      by_cases hlt : j < n
      · have hfz := hown.frozenAt j
        have hold := (hown.cellAt j (by omega)).trans (HAt.out j hlt)
        have hst := (hown.stored j (.int .i64 ((k + j : Nat) : Int))).1
        rw [HSet.out j hlt] at hst
        have HS := Lib.hid hst
        have HB := Lib.hid hbel
        have kl : (j : Int) < (n : Int) := by omega
        have kw : wrap64 (((k + j : Nat) : Int) + 1) = ((k + j : Nat) : Int) + 1 := IntWalk.wrap64_in _ (by omega)
        obtain ⟨z, hz⟩ : ∃ z : Int, ((k + j : Nat) : Int) = z := ⟨_, rfl⟩
        have HZ : Hid (((k + (j + 1) : Nat) : Int) = z + 1) := by show _ = _; omega
        have hzb : -9223372036854775808 ≤ z ∧ z ≤ 9223372036854775806 := by omega
        rw [hz] at kw HS ⊢
        clear hst hown hbel hz
        go_wp2
        go_roundw
        case rel => exact ⟨j + 1, by omega, by go_num, by rw [HZ.out], HS.out, HB.out.trans (grown_cell _ _ _)⟩
        case measure => simp [intOf]; omega
      · obtain rfl : j = n := by omega
        rw [HHf.out] at hown
        have HO := Lib.hid hown
        have HB := Lib.hid hbel
        clear hown hbel
        go_wp2
        go_ret
        exact ⟨rfl, HO.out, HB.out⟩


/-- a row stays that one's block stays -/
theorem own_keep {w w' : World} {base n s : Nat} {e : TypeId} {v : Value} {xs : List Value} (h : w.ownsRow base e s v n xs) (hk : ∀ k, v.ownBlock = some k → w'.heap[k]? = w.heap[k]?) : w'.ownsRow base e s v n xs := by
  obtain ⟨h1, h2⟩ := h
  refine ⟨h1, ?_⟩
  rcases h2 with h2 | ⟨g, cap, cur, hv, hg, hh, r⟩
  · exact Or.inl h2
  · exact Or.inr ⟨g, cap, cur, hv, hg, (hk g (by subst hv; rfl)).trans hh, r⟩
/-- rows of two types lie in two blocks -/
theorem own_two {w : World} {base base2 n n2 s s2 : Nat} {e e2 : TypeId} {v v2 : Value} {xs xs2 : List Value} (h : w.ownsRow base e s v n xs) (h2 : w.ownsRow base2 e2 s2 v2 n2 xs2) (he : e ≠ e2) : ∀ k, v.ownBlock = some k → v2.ownBlock ≠ some k := by
  intro k hk
  rcases h.2 with ⟨hv, _⟩ | ⟨g, cap, cur, hv, _, hg, _⟩
  · subst hv; simp [Value.ownBlock] at hk
  · subst hv
    obtain rfl : g = k := by simpa [Value.ownBlock] using hk
    exact own_ne h2 hg he

structure OwnR (w : World) (lo hi : Nat) (v : Value) (us : Nat → Value) (n : Nat) (f : Nat → List Int) : Prop where
  row : w.ownsRow lo 88 1 v n ((List.range n).map us)
  each : ∀ i, i < n → OwnN w lo (us i) (f i)
  up : ∀ i, i < n → ∀ k, (us i).ownBlock = some k → k < hi
  top : ∀ k, v.ownBlock = some k → k < hi
  apart : ∀ i j, i < n → j < n → i ≠ j → ∀ k, (us i).ownBlock = some k → (us j).ownBlock ≠ some k
section
variable {w w' : World} {lo hi n : Nat} {v : Value} {us : Nat → Value} {f : Nat → List Int}
theorem OwnR.keep (h : OwnR w lo hi v us n f) (hk : ∀ k, lo ≤ k → k < hi → w'.heap[k]? = w.heap[k]?) : OwnR w' lo hi v us n f :=
  ⟨own_keep h.row (fun k e => hk k (h.row.lt k e).1 (h.top k e)), fun i hi' => own_keep (h.each i hi') (fun k e => hk k ((h.each i hi').lt k e).1 (h.up i hi' k e)), h.up, h.top, h.apart⟩
theorem OwnR.below (h : OwnR w lo hi v us n f) (hh : hi ≤ w.heap.size) (hb : Below w.heap.size w w') : OwnR w' lo hi v us n f :=
  h.keep fun k _ hk => hb.block k (Nat.lt_of_lt_of_le hk hh)
theorem OwnR.congr (h : OwnR w lo hi v us n f) {g : Nat → List Int} (e : ∀ i, i < n → f i = g i) : OwnR w lo hi v us n g :=
  ⟨h.row, fun i hi' => (e i hi') ▸ h.each i hi', h.up, h.top, h.apart⟩
theorem OwnR.mono (h : OwnR w lo hi v us n f) {lo' hi' : Nat} (hl : lo' ≤ lo) (hh : hi ≤ hi') : OwnR w lo' hi' v us n f :=
  ⟨Joins.ownsRow_le h.row hl, fun i hi' => (h.each i hi').mono hl, fun i hi' k e => Nat.lt_of_lt_of_le (h.up i hi' k e) hh, fun k e => Nat.lt_of_lt_of_le (h.top k e) hh, h.apart⟩
theorem OwnR.nil (w : World) (lo hi : Nat) (f : Nat → List Int) (us : Nat → Value) : OwnR w lo hi (.slice none 0 0) us 0 f :=
  ⟨World.ownsRow_nil _ _ _ _, fun i h => absurd h (Nat.not_lt_zero i), fun i h => absurd h (Nat.not_lt_zero i), fun k e => by simp [Value.ownBlock] at e, fun i j h => absurd h (Nat.not_lt_zero i)⟩
/-- one row is written -/
theorem OwnR.wrote (h : OwnR w lo hi v us n f) {j : Nat} (hj : j < n) {g : List Int} (ho : OwnN w' lo (us j) g) (hg : w.grownBy w' (us j).ownBlock) : OwnR w' lo hi v us n (fun i => if i = j then g else f i) := by
  refine ⟨own_keep h.row (fun k e => hg.block k (h.row.lt k e).2 (fun e2 => ?_)), fun i hi' => ?_, h.up, h.top, h.apart⟩
  · exact own_two h.row (h.each j hj) (by decide) k e e2.symm
  · by_cases e : i = j
    · subst e
      simpa using ho
    · rw [if_neg e]
      exact own_keep (h.each i hi') (fun k ek => hg.block k ((h.each i hi').lt k ek).2 (fun e2 => h.apart i j hi' hj e k ek e2.symm))
end

/-- the rows can be read -/
def SlR (w : World) (v : Value) (n : Nat) (f : Nat → List Int) : Prop :=
  (∃ ao cap, v = .slice ao 0 cap ∧ n = 0) ∨ (∃ (b off cap : Nat) (us : Nat → Value), v = .slice (some ⟨b, off, none⟩) n cap ∧ 0 < n ∧ b < w.heap.size ∧ ∀ i, i < n → w.cell? ⟨b, off + i, none⟩ = some (us i) ∧ SlN w (us i) (f i))
theorem SlR.below {w w' : World} {v : Value} {n : Nat} {f : Nat → List Int} (h : SlR w v n f) (hb : Below w.heap.size w w') : SlR w' v n f := by
  rcases h with h | ⟨b, off, cap, us, h1, h2, h3, h4⟩
  · exact Or.inl h
  · exact Or.inr ⟨b, off, cap, us, h1, h2, Nat.lt_of_lt_of_le h3 hb.size, fun i hi => ⟨cell_kept hb (h4 i hi).1, (h4 i hi).2.below hb⟩⟩
theorem OwnR.sl {w : World} {lo hi n : Nat} {v : Value} {us : Nat → Value} {f : Nat → List Int} (h : OwnR w lo hi v us n f) : SlR w v n f := by
  rcases Joins.ownsRow_forms h.row with ⟨rfl, h0⟩ | ⟨g, cap, rfl⟩
  · exact Or.inl ⟨none, 0, by rw [], h0⟩
  · by_cases h0 : n = 0
    · subst h0
      exact Or.inl ⟨_, _, rfl, rfl⟩
    · refine Or.inr ⟨g, 0, cap, us, rfl, by omega, (h.row.lt g rfl).2, fun i hi => ⟨?_, (h.each i hi).sl⟩⟩
      have := h.row.cellAt i (by omega)
      rw [Nat.zero_add, this]
      simp [hi]
theorem SlR.form {w : World} {v : Value} {n : Nat} {f : Nat → List Int} (h : SlR w v n f) : ∃ ao cap, v = .slice ao n cap := by
  rcases h with ⟨ao, cap, rfl, rfl⟩ | ⟨b, off, cap, us, rfl, _⟩
  · exact ⟨_, _, rfl⟩
  · exact ⟨_, _, rfl⟩

/-! ### the marks -/
def offR (f : Nat → List Int) : Nat → Nat
  | 0 => 0
  | j + 1 => offR f j + (f j).length
theorem offR_le (f : Nat → List Int) {j : Nat} : ∀ {n : Nat}, j ≤ n → offR f j ≤ offR f n
  | 0, h => by obtain rfl : j = 0 := by omega
               exact Nat.le_refl _
  | n + 1, h => by
    by_cases e : j = n + 1
    · subst e; exact Nat.le_refl _
    · have := offR_le f (n := n) (j := j) (by omega)
      show _ ≤ offR f n + (f n).length
      omega
def markR (f : Nat → List Int) (k i : Nat) : List Int := marksN (k + offR f i) (f i).length
def mixR (f : Nat → List Int) (k j i : Nat) : List Int := if i < j then markR f k i else f i
end Go.Proofs.YtnmnlbgialolhaaDoor

/- Contracts of single functions, and plain lemmas, on which the exact laws of this seat rest; each holds under the conditions that it states. -/
namespace Go.Proofs.YtnmnlbgialolhaaDoor
set_option linter.unusedVariables false
set_option linter.unusedSimpArgs false
open Go.RowKit

set_option maxHeartbeats 1000000 in
theorem eqInt64R (u v : Value) (n : Nat) (f : Nat → List Int) (w : World) (hN : n ≤ 1048576) (hf : ∀ i, i < n → (f i).length ≤ maxLen) (hu : SlR w u n f) (hv : SlR w v n f) :
    Calls Tryd.prog 55 #[u, v] w (fun e w' => e = .returned (.bool true) ∧ Below w.heap.size w w') := by
  rcases hu with ⟨ao, cap, rfl, rfl⟩ | ⟨b, off, cap, us, rfl, hpos, hb, hc⟩
  · obtain ⟨ao2, cap2, rfl⟩ := hv.form
    go_enter Tryd.func55, Tryd.ntmps55
    go_wp2
    refine wp_loop_rounds 1 ?_; rw [rounds_succ]
    go_wp2
    go_ret
    exact ⟨rfl, Below.refl _ _⟩
  · rcases hv with ⟨ao2, cap2, rfl, h0⟩ | ⟨b2, off2, cap2, us2, rfl, hpos2, hb2, hc2⟩
    · omega
    · have HC := Lib.hid hc
      have HC2 := Lib.hid hc2
      have HF := Lib.hid hf
      clear hc hc2 hpos2 hf
      go_enter Tryd.func55, Tryd.ntmps55
      go_wp2
      go_loopw [5] (fun i wr => ∃ k : Nat, k ≤ n ∧ i = .int .i64 k ∧ Below w.heap.size w wr) (fun i _ => n - (intOf i).toNat)
      case atStart => exact ⟨0, Nat.zero_le _, rfl, Below.refl _ _⟩
      case round =>
        obtain ⟨k, hk, rfl, hbel⟩ := hrel
        by_cases hlt : k < n
        · have hx := cell_kept hbel (HC.out k hlt).1
          have hy := cell_kept hbel (HC2.out k hlt).1
          have sx := (HC.out k hlt).2.below hbel
          have sy := (HC2.out k hlt).2.below hbel
          have CE : Hid (∀ W, Below wr.heap.size wr W → Calls Tryd.prog 98 #[us k, us2 k] W (fun e w' => e = .returned (.bool true) ∧ Below W.heap.size W w')) := fun W hb => eqInt64N _ _ (f k) W (HF.out k hlt) (sx.below hb) (sy.below hb)
          obtain ⟨ax, cx, ex⟩ := sx.form
          obtain ⟨ay, cy, ey⟩ := sy.form
          obtain ⟨m, hm⟩ : ∃ m, (f k).length = m := ⟨_, rfl⟩
          rw [hm] at ex ey
          rw [ex] at CE hx
          rw [ey] at CE hy
          have HX : Hid (∀ W, Below wr.heap.size wr W → W.cell? ⟨b, off + k, none⟩ = some (.slice ax m cx) ∧ W.cell? ⟨b2, off2 + k, none⟩ = some (.slice ay m cy)) := fun W hb => ⟨cell_kept hb hx, cell_kept hb hy⟩
          have HB := Lib.hid hbel
          have k0 : (0 : Int) ≤ (k : Int) := by omega
          have k1 : (k : Int) < (n : Int) := by omega
          clear hbel hx hy sx sy ex ey hm
          go_wp2
          go_region_held3 (fun w' => w'.cell? ⟨b, off + k, none⟩ = some (.slice ax m cx) ∧ w'.cell? ⟨b2, off2 + k, none⟩ = some (.slice ay m cy))
            (first | exact HX.out _ (Below.refl _ _).drew | exact HX.out _ ((Below.refl _ _).drew.trans hb1))
            (first | (go_at_call 98; refine (CE.out _ (Below.refl _ _).drew).mono ?_; rintro e w1 ⟨rfl, hb1⟩))
          have HB1 : Hid (Below w.heap.size w w1) := HB.out.trans (((Below.refl wr.heap.size wr).drew.trans hb1).mono HB.out.size)
          clear hb1
          go_wp2
          go_roundw
          case rel => exact ⟨k + 1, by omega, by go_num, HB1.out⟩
          case measure => simp [intOf]; omega
        · obtain rfl : k = n := by omega
          have HB := Lib.hid hbel
          clear hbel
          go_wp2
          go_ret
          exact ⟨rfl, HB.out⟩

set_option maxHeartbeats 1000000 in
theorem markInt64R (lo hi : Nat) (v : Value) (us : Nat → Value) (n : Nat) (f : Nat → List Int) (k : Nat) (w : World) (hN : n ≤ 1048576) (hT : k + offR f n ≤ 1048576) (hlo : lo ≤ w.heap.size) (hv : OwnR w lo hi v us n f) :
    Calls Tryd.prog 56 #[v, .int .i64 k] w (fun e w' => e = .returned (.int .i64 ((k + offR f n : Nat) : Int)) ∧ OwnR w' lo hi v us n (markR f k) ∧ Below lo w w') := by
  rcases Joins.ownsRow_forms hv.row with ⟨rfl, h0⟩ | ⟨g, cap, rfl⟩
  · subst h0
    clear hv
    go_enter Tryd.func56, Tryd.ntmps56
    go_wp2
    refine wp_loop_rounds 1 ?_; rw [rounds_succ]
    go_wp2
    go_ret
    exact ⟨rfl, OwnR.nil _ _ _ _ _, Below.refl _ _⟩
  · have HV : Hid (OwnR w lo hi (.slice (some ⟨g, 0, none⟩) n cap) us n (mixR f k 0)) := hv.congr fun i hi' => by simp [mixR]
    have HOf : Hid (∀ j, j < n → k + offR f (j + 1) ≤ 1048576) := fun j hj => by have := offR_le f (show j + 1 ≤ n by omega); omega
    clear hv hT
    go_enter Tryd.func56, Tryd.ntmps56
    go_wp2
    go_loopw [1, 5] (fun kv iv wr => ∃ j : Nat, j ≤ n ∧ iv = .int .i64 j ∧ kv = .int .i64 ((k + offR f j : Nat) : Int) ∧ Hid (OwnR wr lo hi (.slice (some ⟨g, 0, none⟩) n cap) us n (mixR f k j)) ∧ Hid (Below lo w wr)) (fun _ iv _ => n - (intOf iv).toNat)
    case atStart => exact ⟨0, Nat.zero_le _, rfl, rfl, HV.out, Below.refl _ _⟩
    case round =>
      clear HV
      obtain ⟨j, hj, rfl, rfl, HO, HB⟩ := hrel
      by_cases hlt : j < n
      · have hcell := HO.out.row.cellAt j (by omega)
        have hat : ((List.range n).map us)[j]? = some (us j) := by simp [hlt]
        rw [hat] at hcell
        have hrow : OwnN wr lo (us j) (f j) := by have := HO.out.each j hlt; unfold mixR at this; rwa [if_neg (by omega)] at this
        have hof := HOf.out j hlt
        have hof' : k + offR f j + (f j).length ≤ 1048576 := by have e : offR f (j + 1) = offR f j + (f j).length := rfl; rw [e] at hof; omega
        have CM := Lib.hid (markInt64G lo (us j) (f j) (k + offR f j) wr (by omega) (by omega) hrow)
        have HW : Hid (∀ W', OwnN W' lo (us j) (markR f k j) → wr.grownBy W' (us j).ownBlock → OwnR W' lo hi (.slice (some ⟨g, 0, none⟩) n cap) us n (mixR f k (j + 1)) ∧ Below lo w W') := fun W' ho hg =>
          ⟨(HO.out.wrote hlt ho hg).congr fun i hi' => by
            unfold mixR
            by_cases e : i = j
            · subst e; rw [if_pos rfl, if_pos (by omega)]
            · rw [if_neg e]
              by_cases e2 : i < j
              · rw [if_pos e2, if_pos (by omega)]
              · rw [if_neg e2, if_neg (by omega)],
           HB.out.trans ⟨hg.os, hg.tape, hg.output, hg.size, fun q hq => ?_⟩⟩
        · obtain ⟨ax, nx, cx, ex⟩ : ∃ ao n cap, us j = .slice ao n cap := by
            rcases Joins.ownsRow_forms hrow with ⟨e, _⟩ | ⟨g, cap, e⟩
            · exact ⟨_, _, _, e⟩
            · exact ⟨_, _, _, e⟩
          rw [ex] at hcell CM HW
          have HM : Hid (((k + offR f (j + 1) : Nat) : Int) = ((k + offR f j + (f j).length : Nat) : Int)) := by show _ = _; rw [show k + offR f (j + 1) = k + offR f j + (f j).length from (Nat.add_assoc _ _ _).symm]
          have kl : (j : Int) < (n : Int) := by omega
          obtain ⟨q, hq⟩ : ∃ q, k + offR f j + (f j).length = q := ⟨_, rfl⟩
          rw [hq] at CM HM
          clear hat hrow hof hof' HO HB hq
          go_wp2_with fail
          refine CM.out.mono ?_
          rintro e w2 ⟨rfl, ho2, hg2⟩
          have H2 := HW.out w2 ho2 hg2
          have HO2 := Lib.hid H2.1
          have HB2 := Lib.hid H2.2
          clear ho2 hg2 H2 CM hcell
          go_wp2
          go_roundw
          case rel => exact ⟨j + 1, by omega, by go_num, by rw [HM.out], HO2, HB2⟩
          case measure => simp [intOf]; omega
        · exact hg.block q (by have := HB.out.size; omega) (fun e => by have := (hrow.lt q e.symm).1; omega)
      · obtain rfl : j = n := by omega
        have HO2 : Hid (OwnR wr lo hi (.slice (some ⟨g, 0, none⟩) j cap) us j (markR f k)) := HO.out.congr fun i hi' => by unfold mixR; rw [if_pos hi']
        clear HO
        go_wp2
        go_ret
        exact ⟨rfl, HO2.out, HB.out⟩

set_option maxHeartbeats 1000000 in
theorem heldInt64R (v : Value) (n : Nat) (f : Nat → List Int) (k : Nat) (w : World) (hN : n ≤ 1048576) (hT : k + offR f n ≤ 1048576) (hv : SlR w v n (markR f k)) :
    Calls Tryd.prog 57 #[v, .int .i64 k] w (fun e w' => e = .returned (.int .i64 ((k + offR f n : Nat) : Int)) ∧ Below w.heap.size w w') := by
  have HOf : Hid (∀ j, j < n → k + offR f (j + 1) ≤ 1048576) := fun j hj => by have := offR_le f (show j + 1 ≤ n by omega); omega
  rcases hv with ⟨ao, cap, rfl, rfl⟩ | ⟨b, off, cap, us, rfl, hpos, hb, hc⟩
  · clear HOf
    go_enter Tryd.func57, Tryd.ntmps57
    go_wp2
    refine wp_loop_rounds 1 ?_; rw [rounds_succ]
    go_wp2
    go_ret
    exact ⟨rfl, Below.refl _ _⟩
  · have HC := Lib.hid hc
    clear hc
    go_enter Tryd.func57, Tryd.ntmps57
    go_wp2
    go_loopw [1, 5] (fun kv iv wr => ∃ j : Nat, j ≤ n ∧ iv = .int .i64 j ∧ kv = .int .i64 ((k + offR f j : Nat) : Int) ∧ Hid (Below w.heap.size w wr)) (fun _ iv _ => n - (intOf iv).toNat)
    case atStart => exact ⟨0, Nat.zero_le _, rfl, rfl, Below.refl _ _⟩
    case round =>
      obtain ⟨j, hj, rfl, rfl, HB⟩ := hrel
      by_cases hlt : j < n
      · have hcell := cell_kept HB.out (HC.out j hlt).1
        have srow := (HC.out j hlt).2.below HB.out
        have hof := HOf.out j hlt
        have hof' : k + offR f j + (f j).length ≤ 1048576 := by have e : offR f (j + 1) = offR f j + (f j).length := rfl; rw [e] at hof; omega
        have CM := Lib.hid (heldInt64N (us j) (f j).length (k + offR f j) wr (by omega) (by omega) srow)
        obtain ⟨ax, cx, ex⟩ := srow.form
        obtain ⟨m, hm⟩ : ∃ m, (markR f k j).length = m := ⟨_, rfl⟩
        rw [hm] at ex
        rw [ex] at hcell CM
        have HM : Hid (((k + offR f (j + 1) : Nat) : Int) = ((k + offR f j + (f j).length : Nat) : Int)) := by show _ = _; rw [show k + offR f (j + 1) = k + offR f j + (f j).length from (Nat.add_assoc _ _ _).symm]
        have kl : (j : Int) < (n : Int) := by omega
        obtain ⟨q, hq⟩ : ∃ q, k + offR f j + (f j).length = q := ⟨_, rfl⟩
        rw [hq] at CM HM
        have kq : ¬ ((q : Nat) : Int) < 0 := by omega
        clear hof hof' srow ex hm hq
        go_wp2_with fail
        refine CM.out.mono ?_
        rintro e w2 ⟨rfl, hb2⟩
        have HB2 := Lib.hid (HB.out.trans (hb2.mono HB.out.size))
        clear hb2 CM hcell HB
        go_wp2
        go_roundw
        case rel => exact ⟨j + 1, by omega, by go_num, by rw [HM.out], HB2⟩
        case measure => simp [intOf]; omega
      · obtain rfl : j = n := by omega
        go_wp2
        go_ret
        exact ⟨rfl, HB.out⟩
end Go.Proofs.YtnmnlbgialolhaaDoor

/- Contracts of single functions, and plain lemmas, on which the exact laws of this seat rest; each holds under the conditions that it states. -/
namespace Go.Proofs.YtnmnlbgialolhaaDoor
set_option linter.unusedVariables false
set_option linter.unusedSimpArgs false
open Go.RowKit

theorem less_and (x m : Nat) (hx : x < 4294967296) (hm : m < 4294967296) : x &&& (4294967295 - m) = lessW x m := by
  apply Nat.eq_of_testBit_eq
  intro j
  have := Nat.testBit_two_pow_sub_succ (x := m) (n := 32) (by omega) j
  rw [show 2 ^ 32 - (m + 1) = 4294967295 - m from by omega] at this
  rw [lessW_bit, Nat.testBit_and, this]
  by_cases h : j < 32
  · simp [h]
  · rw [Nat.testBit_lt_two_pow (x := x) (Nat.lt_of_lt_of_le hx (by
      have : 2 ^ 32 ≤ 2 ^ j := Nat.pow_le_pow_right (by omega) (by omega)
      omega))]
    simp

/-- a list of rows of the call's own -/
def OwnL (w : World) (lo hi : Nat) (v : Value) (us : Nat → Value) (xss : List (List Int)) : Prop := OwnR w lo hi v us xss.length (fun i => xss.getD i [])
theorem OwnL.start (w : World) (lo hi : Nat) : OwnL w lo hi (.slice none 0 0) (fun _ => .slice none 0 0) [] := OwnR.nil _ _ _ _ _
theorem infoSl : (Tryd.prog.info? 88).map (fun i => (i.zero, i.size, i.bytes)) = some (some (.slice none 0 0), 1, 24) := by kernel_rfl
theorem OwnR.snoc {W w' : World} {lo n : Nat} {v v' : Value} {us : Nat → Value} {f : Nat → List Int} (h : OwnR W lo W.heap.size v us n f) (hlo : lo ≤ W.heap.size) (cs : Array Value) (x : List Int) (hx : cs.toList = numsV x) (hm : x.length ≤ maxLen) (o : Obj)
    (hown : w'.ownsRow lo 88 1 v' (n + 1) ((List.range n).map us ++ [.slice (some ⟨W.heap.size, 0, none⟩) x.length x.length])) (hg : ((W.alloc (.cells cs 2)).alloc o).grownBy w' v.ownBlock) :
    OwnR w' lo w'.heap.size v' (fun i => if i = n then .slice (some ⟨W.heap.size, 0, none⟩) x.length x.length else us i) (n + 1) (fun i => if i = n then x else f i) := by
  have hs : W.heap.size + 2 ≤ w'.heap.size := by have := hg.size; simp at this; omega
  have hcs : cs.size = x.length * 1 := by have := congrArg List.length hx; simpa [numsV] using this
  have old : ∀ i, i < n → OwnN w' lo (us i) (f i) := fun i hi => by
    have h1 := h.each i hi
    have h2 : ((W.alloc (.cells cs 2)).alloc o).ownsRow lo 2 1 (us i) (f i).length (numsV (f i)) := (World.ownsRow.alloc h1 _).alloc _
    exact own_keep h2 (fun k e => hg.block k (h2.lt k e).2 (fun e2 => own_two h.row h1 (by decide) k e2.symm e))
  have new : OwnN w' lo (.slice (some ⟨W.heap.size, 0, none⟩) x.length x.length) x := by
    have h1 := World.ownsRow_lit (base := lo) (e := 2) (size := 1) W cs x.length hlo hm hcs
    rw [hx] at h1
    have h2 := World.ownsRow.alloc h1 o
    exact own_keep h2 (fun k e => hg.block k (h2.lt k e).2 (fun e2 => by
      have a1 := (h.row.lt k e2.symm).2
      have a2 : W.heap.size = k := by simpa [Value.ownBlock] using e
      omega))
  refine ⟨?_, fun i hi => ?_, fun i hi k e => ?_, fun k e => (hown.lt k e).2, fun i j hi hj hne k e => ?_⟩
  · have : (List.range (n + 1)).map (fun i => if i = n then .slice (some ⟨W.heap.size, 0, none⟩) x.length x.length else us i) = (List.range n).map us ++ [.slice (some ⟨W.heap.size, 0, none⟩) x.length x.length] := by
      rw [List.range_succ, List.map_append]
      congr 1
      · refine List.map_congr_left fun i hi => ?_
        rw [List.mem_range] at hi
        rw [if_neg (by omega)]
      · simp
    rw [this]
    exact hown
  · by_cases e : i = n
    · subst e
      simpa using new
    · simpa [e] using old i (by omega)
  · by_cases e2 : i = n
    · subst e2
      have a2 : W.heap.size = k := by simpa [Value.ownBlock] using e
      omega
    · simp only [e2, if_false] at e
      have := h.up i (by omega) k e
      omega
  · by_cases ei : i = n
    · have ej : j ≠ n := fun e2 => hne (ei.trans e2.symm)
      simp only [ei, if_true] at e
      simp only [ej, if_false]
      have a2 : W.heap.size = k := by simpa [Value.ownBlock] using e
      intro e3
      have := h.up j (by omega) k e3
      omega
    · simp only [ei, if_false] at e
      by_cases ej : j = n
      · simp only [ej, if_true]
        have := h.up i (by omega) k e
        intro e3
        have a2 : W.heap.size = k := by simpa [Value.ownBlock] using e3
        omega
      · simp only [ej, if_false]
        exact h.apart i j (by omega) (by omega) hne k e
theorem OwnL.snoc {W w' : World} {lo : Nat} {v v' : Value} {us : Nat → Value} {xss : List (List Int)} (h : OwnL W lo W.heap.size v us xss) (hlo : lo ≤ W.heap.size) (cs : Array Value) (x : List Int) (hx : cs.toList = numsV x) (hm : x.length ≤ maxLen) (o : Obj)
    (hown : w'.ownsRow lo 88 1 v' (xss.length + 1) ((List.range xss.length).map us ++ [.slice (some ⟨W.heap.size, 0, none⟩) x.length x.length])) (hg : ((W.alloc (.cells cs 2)).alloc o).grownBy w' v.ownBlock) :
    ∃ us', OwnL w' lo w'.heap.size v' us' (xss ++ [x]) := by
  have := OwnR.snoc h hlo cs x hx hm o hown hg
  refine ⟨fun i => if i = xss.length then .slice (some ⟨W.heap.size, 0, none⟩) x.length x.length else us i, ?_⟩
  unfold OwnL
  rw [List.length_append]
  refine this.congr fun i hi => ?_
  simp only [List.getD_eq_getElem?_getD]
  by_cases e : i = xss.length
  · subst e; simp
  · rw [if_neg e, List.getElem?_append_left (by omega)]
theorem OwnL.below {W W' : World} {lo : Nat} {v : Value} {us : Nat → Value} {xss : List (List Int)} (h : OwnL W lo W.heap.size v us xss) (hb : Below W.heap.size W W') : OwnL W' lo W'.heap.size v us xss :=
  (OwnR.below h (Nat.le_refl _) hb).mono (Nat.le_refl _) hb.size

/-! ### the runs of all rows -/
def rowR (r : Nat → Bool) (y t : Nat) : List (List Int) := (rl r t).map fun q => [(y : Int), (q.1 : Int), (q.2 : Int)]
def runsL (R : Nat → Nat → Bool) : Nat → List (List Int)
  | 0 => []
  | y + 1 => runsL R y ++ rowR (R y) y 17
theorem rowR_len (r : Nat → Bool) (y t : Nat) : (rowR r y t).length ≤ t := by unfold rowR; rw [List.length_map]; exact rl_len r t
theorem runsL_len (R : Nat → Nat → Bool) : ∀ y, (runsL R y).length ≤ y * 17
  | 0 => Nat.le_refl _
  | y + 1 => by
    have h1 := runsL_len R y
    have h2 := rowR_len (R y) y 17
    show (runsL R y ++ _).length ≤ _
    rw [List.length_append]
    omega
end Go.Proofs.YtnmnlbgialolhaaDoor
