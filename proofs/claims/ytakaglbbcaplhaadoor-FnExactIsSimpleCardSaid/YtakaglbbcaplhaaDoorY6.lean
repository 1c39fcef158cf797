/- Contracts of single functions, and plain lemmas, on which the exact laws of this seat rest; each holds under the conditions that it states. -/
import Derived.Test.YtakaglbbcaplhaaDoorY4
import Derived.Test.YtakaglbbcaplhaaDoorY1
import Derived.Test.YtakaglbbcaplhaaDoorS3
import Derived.Test.YtakaglbbcaplhaaDoorW6
namespace Go.Proofs.YtakaglbbcaplhaaDoor
set_option linter.unusedVariables false
set_option linter.unusedSimpArgs false
open Go.RowKit

/-! ### the parts around a pixel, counted on 256 rings -/
theorem rgN_bt (f : Nat → Bool) : ∀ n k, (rgN f n).testBit k = (decide (k < n) && f k)
  | 0, k => by simp [rgN]
  | n + 1, k => by
    have ih := rgN_bt f n k
    have hl := rgN_lt f n
    have e : rgN f (n + 1) = 2 ^ n * (if f n = true then 1 else 0) + rgN f n := by
      simp only [rgN]
      split <;> omega
    rw [e, Nat.testBit_two_pow_mul_add _ hl]
    split
    · next h => rw [ih]; simp [h, Nat.lt_succ_of_lt h]
    · next h =>
      by_cases h2 : k = n
      · subst h2; cases hf : f k <;> simp
      · have h3 : ¬ k < n + 1 := by omega
        have h4 : k - n ≠ 0 := by omega
        split
        · rw [Nat.testBit_one_eq_true_iff_self_eq_zero |> fun h => Bool.eq_false_iff.2 fun hh => h4 (h.1 hh)]; simp [h3]
        · simp [h3]

/-- the neighbours of a place of 3 by 3 -/
def nbM (e : Bool) (k : Nat) : Nat := rgN (fun j => (stepL e).any fun d => decide (((k % 3 : Nat) : Int) + d.1 = ((j % 3 : Nat) : Int)) && decide (((k / 3 : Nat) : Int) + d.2 = ((j / 3 : Nat) : Int))) 9
def nbT (e : Bool) : List Nat := if e then [26, 61, 50, 211, 495, 406, 152, 376, 176] else [10, 21, 34, 81, 170, 276, 136, 336, 160]
theorem nbT_eq (e : Bool) : nbT e = (List.range 9).map (nbM e) := by cases e <;> decide +kernel
def spreadM (e : Bool) (X : Nat) : Nat → Nat
  | 0 => 0
  | k + 1 => spreadM e X k ||| (if X.testBit k then (nbT e).getD k 0 else 0)
/-- a place and its neighbours in its row, and so in its column -/
def rowF (X : Nat) : Nat := Nat.lor X (Nat.lor (Nat.shiftLeft (Nat.land X 219) 1) (Nat.shiftRight (Nat.land X 438) 1))
def colF (X : Nat) : Nat := Nat.lor (Nat.shiftLeft (Nat.land X 63) 3) (Nat.shiftRight X 3)
def fastF (e : Bool) (X : Nat) : Nat := if e then (fun H => Nat.lor H (colF H)) (rowF X) else Nat.lor (rowF X) (colF X)
theorem fastF_eq : ((List.range 512).all fun X => decide (fastF true X = X ||| spreadM true X 9) && decide (fastF false X = X ||| spreadM false X 9)) = true := by decide +kernel
def closF (e : Bool) (m s : Nat) : Nat → Nat
  | 0 => Nat.land m (Nat.pow 2 s)
  | n + 1 => Nat.land m (fastF e (closF e m s n))
def bitF (m k : Nat) : Bool := Nat.beq (Nat.land (Nat.shiftRight m k) 1) 1
def labN : List Nat → Nat → Nat
  | [], _ => 0
  | q :: ps, k => (fun l => match l with | 0 => (if bitF q k then 1 else 0) | l + 1 => l + 2) (labN ps k)
def partsM (e : Bool) (m : Nat) : List Nat → List Nat → List Nat
  | [], ps => ps
  | s :: l, ps => partsM e m l (if bitF m s then (if Nat.beq 0 (labN ps s) then ps ++ [closF e m s 8] else ps) else ps)
def seenM (ps : List Nat) (S : List (Int × Int)) : List Int := S.foldl (fun sn d => if 0 < labN ps (mid3 d) then putL ((labN ps (mid3 d) : Nat) : Int) sn else sn) []
def cntM (e : Bool) (m : Nat) : Nat := (seenM (partsM e m [0, 1, 2, 3, 4, 5, 6, 7, 8] []) (stepL e)).length
/-- where the ring has the places of 3 by 3 -/
def ordT : List Nat := [5, 6, 7, 4, 9, 0, 3, 2, 1]
def conv (r : Nat) : Nat := rgN (fun k => bitF r (ordT.getD k 9)) 9
def okC (e : Bool) (m : Nat) : Bool := [0, 1, 2, 3, 4, 5, 6, 7, 8].all fun s => Nat.beq (closF e m s 9) (closF e m s 8)
theorem okC_all : ((List.range 512).all fun m => okC true m && okC false m) = true := by decide +kernel
def okM (e : Bool) (r : Nat) : Bool := (decide (cntM e (conv r) = 1) == decide (ringP r e = 1))
theorem ok_all : ((List.range 256).all fun r => okM true r && okM false r) = true := by decide +kernel

theorem bitF_eq (m k : Nat) : bitF m k = m.testBit k := by
  show Nat.beq ((m >>> k) &&& 1) 1 = (1 &&& (m >>> k) != 0)
  rw [Nat.and_comm 1 (m >>> k), Nat.and_one_is_mod]
  have h : (m >>> k) % 2 < 2 := Nat.mod_lt _ (by omega)
  revert h
  generalize (m >>> k) % 2 = z
  intro h
  have : z = 0 ∨ z = 1 := by omega
  rcases this with rfl | rfl <;> rfl
theorem fast_at (e : Bool) (X : Nat) (h : X < 512) : fastF e X = X ||| spreadM e X 9 := by
  have := List.all_eq_true.1 fastF_eq X (List.mem_range.2 h)
  simp only [Bool.and_eq_true, decide_eq_true_eq] at this
  cases e
  · exact this.2
  · exact this.1
theorem clos_fix (e : Bool) (m s : Nat) (hm : m < 512) (hs : s < 9) : closF e m s 9 = closF e m s 8 := by
  have := List.all_eq_true.1 okC_all m (List.mem_range.2 hm)
  simp only [Bool.and_eq_true, okC] at this
  have h9 : s ∈ [0, 1, 2, 3, 4, 5, 6, 7, 8] := by
    have : s = 0 ∨ s = 1 ∨ s = 2 ∨ s = 3 ∨ s = 4 ∨ s = 5 ∨ s = 6 ∨ s = 7 ∨ s = 8 := by omega
    simpa using this
  cases e
  · exact Nat.eq_of_beq_eq_true (List.all_eq_true.1 this.2 s h9)
  · exact Nat.eq_of_beq_eq_true (List.all_eq_true.1 this.1 s h9)
theorem clos_lt (e : Bool) (m s : Nat) (hm : m < 512) : ∀ n, closF e m s n < 512
  | 0 => Nat.lt_of_le_of_lt (Nat.and_le_left (n := m) (m := 2 ^ s)) hm
  | n + 1 => Nat.lt_of_le_of_lt (Nat.and_le_left (n := m) (m := fastF e (closF e m s n))) hm
theorem spread_bit (e : Bool) (X j : Nat) : ∀ n, (spreadM e X n).testBit j = true ↔ ∃ k, k < n ∧ X.testBit k = true ∧ ((nbT e).getD k 0).testBit j = true
  | 0 => by simp [spreadM]
  | n + 1 => by
    simp only [spreadM, Nat.testBit_or, Bool.or_eq_true, spread_bit e X j n]
    constructor
    · rintro (⟨k, h, h2⟩ | h)
      · exact ⟨k, by omega, h2⟩
      · split at h
        · next hx => exact ⟨n, by omega, hx, h⟩
        · simp at h
    · rintro ⟨k, h, hx, h2⟩
      by_cases hk : k = n
      · subst hk; right; rw [if_pos hx]; exact h2
      · left; exact ⟨k, by omega, hx, h2⟩
theorem nb_bit (e : Bool) (k j : Nat) (hk : k < 9) (hj : j < 9) : ((nbT e).getD k 0).testBit j = true ↔ ∃ d ∈ stepL e, ((k % 3 : Nat) : Int) + d.1 = ((j % 3 : Nat) : Int) ∧ ((k / 3 : Nat) : Int) + d.2 = ((j / 3 : Nat) : Int) := by
  rw [nbT_eq]
  have : ((List.range 9).map (nbM e)).getD k 0 = nbM e k := by simp [List.getD, hk]
  rw [this, nbM, rgN_bt]
  simp [hj]
theorem clos_bit (e : Bool) (m s n j : Nat) (hm : m < 512) : (closF e m s (n + 1)).testBit j = true ↔ m.testBit j = true ∧ ((closF e m s n).testBit j = true ∨ ∃ k, k < 9 ∧ (closF e m s n).testBit k = true ∧ ((nbT e).getD k 0).testBit j = true) := by
  show (m &&& fastF e (closF e m s n)).testBit j = true ↔ _
  rw [fast_at e _ (clos_lt e m s hm n), Nat.testBit_and, Nat.testBit_or, Bool.and_eq_true, Bool.or_eq_true, spread_bit]
theorem lt9 {m k : Nat} (hm : m < 512) (h : m.testBit k = true) : k < 9 := by
  rcases Nat.lt_or_ge k 9 with h9 | h9
  · exact h9
  · rw [Nat.testBit_lt_two_pow (Nat.lt_of_lt_of_le hm (Nat.pow_le_pow_right (n := 2) (by omega) h9))] at h
    simp at h
section
variable {p : Int → Int → Bool} {e : Bool} {m : Nat} (hm : m < 512) (h1 : ∀ x y : Nat, x < 3 → y < 3 → p x y = m.testBit (y * 3 + x)) (h2 : ∀ X Y : Int, p X Y = true → (0 ≤ X ∧ X < 3) ∧ (0 ≤ Y ∧ Y < 3))
def spot3 (k : Nat) : Int × Int := (((k % 3 : Nat) : Int), ((k / 3 : Nat) : Int))
include h1 in
theorem at3 (k : Nat) (hk : k < 9) : pAt p (spot3 k) = m.testBit k := by
  show p ((k % 3 : Nat) : Int) ((k / 3 : Nat) : Int) = _
  rw [h1 _ _ (by omega) (by omega)]
  congr 1
  omega
include hm h1 in
theorem clos_reach (s : Nat) (hs : s < 9) : ∀ n k, k < 9 → (closF e m s n).testBit k = true → Reach p (stepL e) [spot3 s] (spot3 k)
  | 0, k, hk, h => by
    change (m &&& 2 ^ s).testBit k = true at h
    rw [Nat.testBit_and, Nat.testBit_two_pow, Bool.and_eq_true, decide_eq_true_eq] at h
    obtain ⟨hb, rfl⟩ := h
    exact Reach.seed (by simp) (by rw [at3 h1 _ hk]; exact hb)
  | n + 1, k, hk, h => by
    rw [clos_bit e m s n k hm] at h
    obtain ⟨hb, h | ⟨j, hj, hc, hn⟩⟩ := h
    · exact clos_reach s hs n k hk h
    · rw [nb_bit e j k hj hk] at hn
      obtain ⟨d, hd, ex, ey⟩ := hn
      have ih := clos_reach s hs n j hj hc
      have ek : spot3 k = addS (spot3 j) d := by
        show ((_ : Int), (_ : Int)) = (_, _)
        rw [← ex, ← ey]; rfl
      rw [ek]
      exact Reach.step ih hd (by rw [← ek, at3 h1 _ hk]; exact hb)
theorem clos_seed (e : Bool) {m : Nat} (hm : m < 512) (s : Nat) (h : m.testBit s = true) : ∀ n, (closF e m s n).testBit s = true
  | 0 => by
    show (m &&& 2 ^ s).testBit s = true
    rw [Nat.testBit_and, Nat.testBit_two_pow, h]; simp
  | n + 1 => (clos_bit e m s n s hm).2 ⟨h, Or.inl (clos_seed e hm s h n)⟩
include hm h1 h2 in
theorem reach_clos (s : Nat) (hs : s < 9) (q : Int × Int) (h : Reach p (stepL e) [spot3 s] q) : ∃ k, k < 9 ∧ q = spot3 k ∧ (closF e m s 8).testBit k = true := by
  have mk : ∀ q : Int × Int, pAt p q = true → ∃ k, k < 9 ∧ q = spot3 k ∧ m.testBit k = true := fun q hq => by
    have h3 := h2 q.1 q.2 hq
    refine ⟨q.2.toNat * 3 + q.1.toNat, by omega, ?_, ?_⟩
    · show (q.1, q.2) = ((_ : Int), (_ : Int))
      congr 1 <;> omega
    · have := h1 q.1.toNat q.2.toNat (by omega) (by omega)
      rw [← this, Int.toNat_of_nonneg h3.1.1, Int.toNat_of_nonneg h3.2.1]
      exact hq
  induction h with
  | @seed q hx hb =>
    obtain ⟨k, hk, ek, hmk⟩ := mk q hb
    rw [List.mem_singleton] at hx
    refine ⟨s, hs, hx, clos_seed e hm s ?_ 8⟩
    have : pAt p (spot3 s) = true := hx ▸ hb
    rw [at3 h1 s hs] at this
    exact this
  | @step q d hr hd hb ih =>
    obtain ⟨j, hj, rfl, hc⟩ := ih
    obtain ⟨k, hk, ek, hmk⟩ := mk _ hb
    refine ⟨k, hk, ek, ?_⟩
    rw [← clos_fix e m s hm hs, clos_bit e m s 8 k hm]
    refine ⟨hmk, Or.inr ⟨j, hj, hc, (nb_bit e j k hj hk).2 ⟨d, hd, ?_⟩⟩⟩
    have := Prod.ext_iff.1 ek
    exact ⟨this.1, this.2⟩
include hm h1 h2 in
theorem partP_clos (s k : Nat) (hs : s < 9) (hk : k < 9) : partP p (stepL e) 3 (spot3 s) k = (closF e m s 8).testBit k := by
  unfold partP
  rcases hb : (closF e m s 8).testBit k with _ | _
  · rw [decide_eq_false_iff_not]
    intro h
    obtain ⟨j, hj, ej, hc⟩ := reach_clos hm h1 h2 s hs _ h
    have : k = j := by
      have h3 := Prod.ext_iff.1 ej
      have h4 : ((k % 3 : Nat) : Int) = ((j % 3 : Nat) : Int) := h3.1
      have h5 : ((k / 3 : Nat) : Int) = ((j / 3 : Nat) : Int) := h3.2
      omega
    subst this
    rw [hb] at hc
    simp at hc
  · classical exact decide_eq_true (clos_reach hm h1 s hs 8 k hk hb)
def SameP (ps : List (Nat → Bool)) (ms : List Nat) : Prop := ∀ k, k < 9 → ps.map (fun q => q k) = ms.map (fun q => q.testBit k)
theorem lab_map (k : Nat) : ∀ (ps : List (Nat → Bool)) (ms : List Nat), ps.map (fun q => q k) = ms.map (fun q => q.testBit k) → lab ps k = labN ms k
  | [], [], _ => rfl
  | [], _ :: _, h => by simp at h
  | _ :: _, [], h => by simp at h
  | q :: ps, r :: ms, h => by
    rw [List.map_cons, List.map_cons, List.cons.injEq] at h
    have ih := lab_map k ps ms h.2
    simp only [lab, labN, ih, bitF_eq, h.1]
    cases labN ms k with
    | zero => rfl
    | succ n => rfl
def spotsF (m : Nat) (l : List Nat) : List (Int × Int) := l.filterMap fun k => if m.testBit k then some (spot3 k) else none
include hm h1 h2 in
theorem parts_clos : ∀ (l : List Nat) (ps : List (Nat → Bool)) (ms : List Nat), (∀ k ∈ l, k < 9) → SameP ps ms → SameP (partsP p (stepL e) 3 (spotsF m l) ps) (partsM e m l ms)
  | [], ps, ms, _, h => h
  | s :: l, ps, ms, hl, h => by
    have hs := hl s (by simp)
    have hl' : ∀ k ∈ l, k < 9 := fun k hk => hl k (by simp [hk])
    unfold partsM
    rw [bitF_eq]
    unfold spotsF
    rw [List.filterMap_cons]
    rcases hb : m.testBit s with _ | _
    · exact parts_clos l ps ms hl' h
    · simp only [if_true, partsP]
      have hi : idxS 3 (spot3 s) = s := by
        show (((s / 3 : Nat) : Int)).toNat * 3 + (((s % 3 : Nat) : Int)).toNat = s
        omega
      have hlab : lab ps (idxS 3 (spot3 s)) = labN ms s := by rw [hi]; exact lab_map s ps ms (h s hs)
      rw [hlab]
      refine parts_clos l _ _ hl' ?_
      cases hn : labN ms s with
      | zero =>
        rw [if_neg (by omega)]
        show SameP (ps ++ _) (ms ++ [closF e m s 8])
        intro k hk
        rw [List.map_append, List.map_append, h k hk]
        congr 1
        simp only [List.map_cons, List.map_nil]
        rw [partP_clos hm h1 h2 s k hs hk]
      | succ n =>
        rw [if_pos (by omega)]
        exact h
end
theorem mid3_lt (e : Bool) : ∀ d ∈ stepL e, mid3 d < 9 := by cases e <;> decide
theorem seen_eq (ps : List (Nat → Bool)) (ms : List Nat) (h : SameP ps ms) (S : List (Int × Int)) (hS : ∀ d ∈ S, mid3 d < 9) : seenL ps S = seenM ms S := by
  unfold seenL seenM
  have : ∀ (S : List (Int × Int)) (sn : List Int), (∀ d ∈ S, mid3 d < 9) → S.foldl (seenS ps) sn = S.foldl (fun sn d => if 0 < labN ms (mid3 d) then putL ((labN ms (mid3 d) : Nat) : Int) sn else sn) sn := by
    intro S
    induction S with
    | nil => intro sn _; rfl
    | cons d S ih =>
      intro sn hd
      rw [List.foldl_cons, List.foldl_cons, ih _ (fun x hx => hd x (by simp [hx]))]
      congr 1
      unfold seenS
      rw [lab_map _ ps ms (h _ (hd d (by simp)))]
  exact this S [] hS
theorem rgN_congr {f g : Nat → Bool} : ∀ n, (∀ k, k < n → f k = g k) → rgN f n = rgN g n
  | 0, _ => rfl
  | n + 1, h => by simp only [rgN, rgN_congr n (fun k hk => h k (by omega)), h n (by omega)]
theorem rgN_not (f : Nat → Bool) : ∀ n, rgN (fun k => !f k) n + rgN f n + 1 = 2 ^ n
  | 0 => rfl
  | n + 1 => by
    have ih := rgN_not f n
    simp only [rgN]
    have e : 2 ^ (n + 1) = 2 ^ n + 2 ^ n := by rw [Nat.pow_succ]; omega
    rcases Bool.eq_false_or_eq_true (f n) with hf | hf <;> simp [hf] <;> omega
theorem conv_eq (f : Nat → Bool) : conv (rgN f 8) = rgN (fun k => decide (ordT.getD k 9 < 8) && f (ordT.getD k 9)) 9 :=
  rgN_congr 9 fun k _ => by rw [bitF_eq, rgN_bt]
theorem arF_conv (p : Int → Int → Bool) (bl : Bool) (x y : Int) : rgN (fun k => arF p bl x y (k / 3) (k % 3)) 9 = conv (rgN (fun k => rgV p x y k == bl) 8) := by
  rw [conv_eq]
  refine rgN_congr 9 fun k hk => ?_
  have hc : k = 0 ∨ k = 1 ∨ k = 2 ∨ k = 3 ∨ k = 4 ∨ k = 5 ∨ k = 6 ∨ k = 7 ∨ k = 8 := by omega
  rcases hc with rfl | rfl | rfl | rfl | rfl | rfl | rfl | rfl | rfl <;> simp [arF, ordT, rgV]
theorem ok_at (e : Bool) (r : Nat) (h : r < 256) : decide (cntM e (conv r) = 1) = decide (ringP r e = 1) := by
  have := List.all_eq_true.1 ok_all r (List.mem_range.2 h)
  simp only [okM, Bool.and_eq_true, beq_iff_eq] at this
  cases e
  · exact this.2
  · exact this.1
--CUT
theorem fmap_congr {α β : Type} {f g : α → Option β} : ∀ {l : List α}, (∀ x ∈ l, f x = g x) → l.filterMap f = l.filterMap g
  | [], _ => rfl
  | x :: l, h => by
    rw [List.filterMap_cons, List.filterMap_cons, h x (by simp), fmap_congr (fun y hy => h y (by simp [hy]))]
theorem partsN_mk (F : Nat → Nat → Bool) (e : Bool) : partsN (mkPic 3 3 F) e = cntM e (rgN (fun k => F (k / 3) (k % 3)) 9) := by
  have hm : rgN (fun k => F (k / 3) (k % 3)) 9 < 512 := rgN_lt _ 9
  have hb : ∀ k, k < 9 → (rgN (fun k => F (k / 3) (k % 3)) 9).testBit k = F (k / 3) (k % 3) := fun k hk => by rw [rgN_bt]; simp [hk]
  have hz := mkPic_row0 3 3 F (by omega)
  have hl := mkPic_len 3 3 F
  have hV := vp_of (mkPic_valid 3 3 F (by omega) (by omega))
  have hin : ∀ x y : Int, pixI (mkPic 3 3 F) x y = (insB 3 3 x y && pixF (mkPic 3 3 F) y.toNat x.toNat) := fun x y => by unfold pixI; rw [hz, hl]; rfl
  have h1 : ∀ x y : Nat, x < 3 → y < 3 → pixI (mkPic 3 3 F) x y = (rgN (fun k => F (k / 3) (k % 3)) 9).testBit (y * 3 + x) := fun x y hx hy => by
    rw [hin, hb _ (by omega), Int.toNat_natCast, Int.toNat_natCast, mkPic_pix 3 3 F hy hx]
    have e1 : (y * 3 + x) / 3 = y := by omega
    have e2 : (y * 3 + x) % 3 = x := by omega
    have e3 : insB 3 3 (x : Int) (y : Int) = true := by unfold insB inB; simp; omega
    rw [e1, e2, e3, Bool.true_and]
  have h2 : ∀ X Y : Int, pixI (mkPic 3 3 F) X Y = true → (0 ≤ X ∧ X < 3) ∧ (0 ≤ Y ∧ Y < 3) := fun X Y h => by
    rw [hin, Bool.and_eq_true] at h
    have := h.1
    unfold insB inB at this
    simp at this
    omega
  obtain ⟨m, hmm⟩ : ∃ m, rgN (fun k => F (k / 3) (k % 3)) 9 = m := ⟨_, rfl⟩
  rw [hmm] at hm h1 hb ⊢
  unfold partsN cntM
  rw [hz, hl]
  have hsp : spL (pixF (mkPic 3 3 F)) 3 (3 * 3) = spotsF m [0, 1, 2, 3, 4, 5, 6, 7, 8] := by
    show (List.range 9).filterMap _ = spotsF m (List.range 9)
    unfold spotsF
    refine fmap_congr fun k hk => ?_
    rw [List.mem_range] at hk
    rw [hb k hk, mkPic_pix 3 3 F (by omega) (by omega)]
    rfl
  rw [hsp]
  rw [seen_eq _ _ (parts_clos hm h1 h2 [0, 1, 2, 3, 4, 5, 6, 7, 8] [] [] (by decide) (fun k hk => rfl)) (stepL e) (mid3_lt e)]
theorem simN_eq (p : Int → Int → Bool) (x y : Int) (e8 : Bool) : simN p x y e8 = ringS (rgN (rgV p x y) 8) e8 := by
  unfold simN ringS
  rw [partsN_mk, partsN_mk, arF_conv, arF_conv]
  have hr := rgN_lt (rgV p x y) 8
  have hn := rgN_not (rgV p x y) 8
  have e1 : rgN (fun k => rgV p x y k == true) 8 = rgN (rgV p x y) 8 := rgN_congr 8 fun k _ => by simp
  have e2 : rgN (fun k => rgV p x y k == false) 8 = 255 - rgN (rgV p x y) 8 := by
    have : rgN (fun k => rgV p x y k == false) 8 = rgN (fun k => !rgV p x y k) 8 := rgN_congr 8 fun k _ => by cases rgV p x y k <;> rfl
    omega
  rw [e1, e2, ok_at e8 _ hr, ok_at (!e8) _ (by omega)]
end Go.Proofs.YtakaglbbcaplhaaDoor
