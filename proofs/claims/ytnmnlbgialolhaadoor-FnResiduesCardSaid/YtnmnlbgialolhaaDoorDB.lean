/- Contracts of single functions, and plain lemmas, on which the exact laws of this seat rest; each holds under the conditions that it states. -/
import Derived.Test.YtnmnlbgialolhaaDoorPb
import Derived.Test.YtnmnlbgialolhaaDoorQc
import Derived.Test.YtnmnlbgialolhaaDoorD4
import Derived.Test.YtnmnlbgialolhaaDoorMo
import Derived.Test.YtnmnlbgialolhaaDoorSu
import Derived.Test.YtnmnlbgialolhaaDoorSc
import Derived.Test.YtnmnlbgialolhaaDoorTa
import Derived.Test.YtnmnlbgialolhaaDoorRc
import Derived.RegionTactic
import Derived.BigRegion
import Derived.Test.YtnmnlbgialolhaaDoorCc
namespace Go.Proofs.YtnmnlbgialolhaaDoor
set_option linter.unusedVariables false
set_option linter.unusedSimpArgs false
open Go.RowKit

/-! ### the nearest of some spots -/
abbrev NrT := (Int × Int) × Int
def nrS (k x y : Int) (s : NrT) (q : Int × Int) : NrT := if s.2 < 0 ∨ farI k x y q.1 q.2 < s.2 then (q, farI k x y q.1 q.2) else s
def nrL (k x y : Int) (L : List (Int × Int)) : NrT := L.foldl (nrS k x y) ((0, 0), -1)
theorem nrL_snoc (k x y : Int) (L : List (Int × Int)) (q : Int × Int) : nrL k x y (L ++ [q]) = nrS k x y (nrL k x y L) q := by simp [nrL]
theorem farI_range (k ax ay bx b_y : Int) (h1 : Small ax) (h2 : Small ay) (h3 : Small bx) (h4 : Small b_y) : 0 ≤ farI k ax ay bx b_y ∧ farI k ax ay bx b_y ≤ 20000 := by
  unfold Small at h1 h2 h3 h4
  have r1 := absI_range (ax - bx) (by omega)
  have r2 := absI_range (ay - b_y) (by omega)
  have s1 := sq_range _ r1
  have s2 := sq_range _ r2
  unfold farI
  split
  · omega
  · split <;> omega
def SmallL (L : List (Int × Int)) : Prop := ∀ q ∈ L, Small q.1 ∧ Small q.2
theorem nrL_range (k x y : Int) (hx : Small x) (hy : Small y) (L : List (Int × Int)) (hL : SmallL L) : (-1 ≤ (nrL k x y L).2 ∧ (nrL k x y L).2 ≤ 20000) ∧ Small (nrL k x y L).1.1 ∧ Small (nrL k x y L).1.2 := by
  have : ∀ (L : List (Int × Int)) (s : NrT), SmallL L → ((-1 ≤ s.2 ∧ s.2 ≤ 20000) ∧ Small s.1.1 ∧ Small s.1.2) → ((-1 ≤ (L.foldl (nrS k x y) s).2 ∧ (L.foldl (nrS k x y) s).2 ≤ 20000) ∧ Small (L.foldl (nrS k x y) s).1.1 ∧ Small (L.foldl (nrS k x y) s).1.2) := by
    intro L
    induction L with
    | nil => intro s _ h; exact h
    | cons q L ih =>
      intro s hL h
      rw [List.foldl_cons]
      refine ih _ (fun p hp => hL p (by simp [hp])) ?_
      have hq := hL q (by simp)
      have := farI_range k x y q.1 q.2 hx hy hq.1 hq.2
      unfold nrS
      split
      · exact ⟨⟨by show -1 ≤ farI k x y q.1 q.2; omega, this.2⟩, hq⟩
      · exact h
  exact this L _ hL ⟨by decide, by unfold Small; decide, by unfold Small; decide⟩
theorem spL_small (f : Nat → Nat → Bool) (wd h N : Nat) (hw : wd ≤ 16) (hw1 : 1 ≤ wd) (hN : N ≤ wd * h) (hh : h ≤ 16) : SmallL (spL f wd N) := by
  intro q hq
  unfold spL at hq
  rw [List.mem_filterMap] at hq
  obtain ⟨i, hi, he⟩ := hq
  rw [List.mem_range] at hi
  split at he
  · injection he with he
    subst he
    have h1 : i % wd < wd := Nat.mod_lt _ hw1
    have h2 : i / wd < h := (Nat.div_lt_iff_lt_mul hw1).2 (by rw [Nat.mul_comm]; omega)
    unfold Small
    show (-40 ≤ ((i % wd : Nat) : Int) ∧ ((i % wd : Nat) : Int) ≤ 40) ∧ -40 ≤ ((i / wd : Nat) : Int) ∧ ((i / wd : Nat) : Int) ≤ 40
    generalize i % wd = u at h1 ⊢
    generalize i / wd = v at h2 ⊢
    omega
  · cases he

theorem infoSp1 : (Tryd.prog.info? 93).map (·.size) = some 2 := by kernel_rfl
/-- a spot in a variable -/
def Var2 (W : World) (B : Nat) (q : Int × Int) : Prop := W.heap[B]? = some (.cells #[.int .i64 q.1, .int .i64 q.2] 93 (0, 0))
section
variable {W W' : World} {B : Nat} {q : Int × Int}
theorem Var2.lt (h : Var2 W B q) : B < W.heap.size := (Array.getElem?_eq_some_iff.1 h).1
theorem Var2.c0 (h : Var2 W B q) : W.cell? ⟨B, 0, none⟩ = some (.int .i64 q.1) := by rw [Joins.cell_of_block h 0]; rfl
theorem Var2.c1 (h : Var2 W B q) : W.cell? ⟨B, 1, none⟩ = some (.int .i64 q.2) := by rw [Joins.cell_of_block h 1]; rfl
theorem Var2.below (h : Var2 W B q) (hb : Below W.heap.size W W') : Var2 W' B q := (hb.block B h.lt).trans h
theorem Var2.upd (h : Var2 W B q) (a b : Int) : Var2 ((W.setCell ⟨B, 0, none⟩ (.int .i64 a)).setCell ⟨B, 1, none⟩ (.int .i64 b)) B (a, b) :=
  Joins.block_setCell (Joins.block_setCell h (.int .i64 a)) (.int .i64 b)
theorem two_free (h : Var2 W B q) (i : Nat) : W.frozen? ⟨B, i, none⟩ = false := Joins.unfrozen_of_block h i
theorem Var2.far (h : Var2 W B q) {C i : Nat} (hc : B ≠ C) (v : Value) : Var2 (W.setCell ⟨C, i, none⟩ v) B q := (Below.heap_setCell _ _ _ _ hc).trans h
end

end Go.Proofs.YtnmnlbgialolhaaDoor

/- Contracts of single functions, and plain lemmas, on which the exact laws of this seat rest; each holds under the conditions that it states. -/
namespace Go.Proofs.YtnmnlbgialolhaaDoor
set_option linter.unusedVariables false
open Go.RowKit


/-- the pixels that are done of a matrix that is being made -/
structure TuG (W : World) (t wd h : Nat) (g : Nat → Nat) (D : Nat → Nat → Prop) (f : Nat → Nat → Bool) : Prop where
  c : W.heap[t]? = some (.cells (mat wd h g) 63 (0, 0))
  lt : ∀ j, g j < 4294967296
  bit : ∀ j i, j < h → i < wd → D j i → (g j).testBit i = f j i
theorem TuG.below {W W' : World} {t wd h : Nat} {g : Nat → Nat} {D : Nat → Nat → Prop} {f : Nat → Nat → Bool} (H : TuG W t wd h g D f) (hb : Below W.heap.size W W') : TuG W' t wd h g D f :=
  ⟨(hb.block _ (Array.getElem?_eq_some_iff.1 H.c).1).trans H.c, H.lt, H.bit⟩
theorem TuG.imp {W : World} {t wd h : Nat} {g : Nat → Nat} {D D' : Nat → Nat → Prop} {f : Nat → Nat → Bool} (H : TuG W t wd h g D f) (hd : ∀ j i, j < h → i < wd → D' j i → D j i) : TuG W t wd h g D' f :=
  ⟨H.c, H.lt, fun j i hj hi h2 => H.bit j i hj hi (hd j i hj hi h2)⟩
theorem TuG.step {W W' : World} {t wd h : Nat} {g : Nat → Nat} {D D' : Nat → Nat → Prop} {f : Nat → Nat → Bool} {q p : Nat} {bk : Bool} (H : TuG W t wd h g D f) (hw : wd ≤ 16) (hc : W'.heap[t]? = some (.cells (mat wd h (updG g q p bk)) 63 (0, 0))) (hp : p < 16)
    (hbk : bk = f q p) (hD : ∀ j i, j < h → i < wd → D' j i → D j i ∨ (j = q ∧ i = p)) : TuG W' t wd h (updG g q p bk) D' f := by
  refine ⟨hc, upd_all H.lt q p bk hp, fun j i hj hi h2 => ?_⟩
  unfold updG
  by_cases h1 : j = q
  · subst h1
    rw [if_pos rfl, upd_bit _ _ _ _ hp (by omega)]
    by_cases h3 : i = p
    · subst h3; rw [if_pos rfl]; exact hbk
    · rw [if_neg h3]
      rcases hD j i hj hi h2 with h4 | h4
      · exact H.bit j i hj hi h4
      · exact absurd h4.2 h3
  · rw [if_neg h1]
    rcases hD j i hj hi h2 with h4 | h4
    · exact H.bit j i hj hi h4
    · exact absurd h4.1 h1
theorem TuG.pic {W : World} {t wd h : Nat} {g : Nat → Nat} {D : Nat → Nat → Prop} {f : Nat → Nat → Bool} (H : TuG W t wd h g D f) (hd : ∀ j i, j < h → i < wd → D j i) : mkPic wd h (fun y x => blackB wd h g x y) = mkPic wd h f :=
  mkPic_congr fun y hy x hx => by
    have hh : hasB wd h x y = true := by rw [hasB_insB]; exact in_range hx hy
    unfold blackB
    rw [hh, Bool.true_and, Int.toNat_natCast, Int.toNat_natCast]
    exact H.bit y x hy hx (hd y x hy hx)
theorem TuG.zero {W : World} {t wd h : Nat} {D : Nat → Nat → Prop} {f : Nat → Nat → Bool} (hc : W.heap[t]? = some (.cells (mcells wd h (fun _ => 0)) 63 (0, 0))) (hd : ∀ j i, ¬ D j i) : TuG W t wd h (fun _ => 0) D f :=
  ⟨hc, fun _ => by omega, fun j i _ _ h => absurd h (hd j i)⟩

theorem swap_facts {w1 W3 : World} {M X : Array Value} {t : TypeId} (hW : ((w1.alloc (.cells M t)).alloc (.cells X t)).drew = W3) :
    W3.heap[w1.heap.size]? = some (.cells M t (0, 0)) ∧ W3.heap[w1.heap.size + 1]? = some (.cells X t (0, 0)) ∧ Below w1.heap.size w1 W3 := by
  subst hW
  refine ⟨?_, ?_, (Joins.below_alloc2 w1 _ _).drew⟩
  · show ((w1.alloc (.cells M t)).alloc (.cells X t)).heap[w1.heap.size]? = _
    rw [Below.heap_alloc _ _ _ (by simp)]; exact heap_alloc_last w1 _
  · show ((w1.alloc (.cells M t)).alloc (.cells X t)).heap[w1.heap.size + 1]? = _
    exact heap_alloc2_new _ _ _
end Go.Proofs.YtnmnlbgialolhaaDoor

/- Contracts of single functions, and plain lemmas, on which the exact laws of this seat rest; each holds under the conditions that it states. -/
namespace Go.Proofs.YtnmnlbgialolhaaDoor
set_option linter.unusedVariables false
set_option linter.unusedSimpArgs false
open Go.RowKit

def spV (ss : List ByteArray) : List (Int × Int) := if validB ss then spL (pixF ss) (row0 ss).size ((row0 ss).size * ss.length) else []

end Go.Proofs.YtnmnlbgialolhaaDoor

/- Contracts of single functions, and plain lemmas, on which the exact laws of this seat rest; each holds under the conditions that it states. -/
namespace Go.Proofs.YtnmnlbgialolhaaDoor
set_option linter.unusedVariables false
set_option linter.unusedSimpArgs false
open Go.RowKit
attribute [local go_sem] Oper.semAt_some

/-- the black pixels in reading order -/
def bl (ss : List ByteArray) : List (Int × Int) := spL (pixF ss) (row0 ss).size ((row0 ss).size * ss.length)
theorem spL_rs {ss : List ByteArray} (V : VP ss) : ∀ y, y ≤ ss.length → ∀ x, x ≤ (row0 ss).size → y * (row0 ss).size + x ≤ (row0 ss).size * ss.length → (spL (pixF ss) (row0 ss).size (y * (row0 ss).size + x)).length = rs (wordsOf ss) y + bs (wordsOf ss y) x
  | 0, hy, 0, hx, h => by simp [spL, rs, bs]
  | y + 1, hy, 0, hx, h => by
    have ih := spL_rs V y (by omega) (row0 ss).size (Nat.le_refl _) (by rw [← Nat.succ_mul]; exact h)
    rw [Nat.add_zero, Nat.succ_mul, ih, rs_succ, bs_row V y]
    rfl
  | y, hy, x + 1, hx, h => by
    have ih := spL_rs V y hy x (by omega) (by omega)
    have hyl : y < ss.length := by
      rcases Nat.lt_or_ge y ss.length with h1 | h1
      · exact h1
      · have : y = ss.length := by omega
        subst this
        rw [Nat.mul_comm] at h
        omega
    rw [← Nat.add_assoc, spL_snoc _ _ _ _ (by omega), List.length_append, ih, bs_succ, words_at V y x hyl (by omega)]
    cases pixF ss y x <;> simp <;> omega
theorem bl_rs {ss : List ByteArray} (V : VP ss) : rs (wordsOf ss) ss.length = (bl ss).length := by
  have := spL_rs V ss.length (Nat.le_refl _) 0 (Nat.zero_le _) (by rw [Nat.mul_comm]; omega)
  rw [Nat.add_zero, Nat.mul_comm] at this
  unfold bl
  rw [this]
  rfl
theorem bl_len (ss : List ByteArray) (hok : validB ss = true) : (bl ss).length ≤ 256 := by
  have V := vp_of hok
  have h1 := V.w16
  have h2 := V.n16
  exact Nat.le_trans (spL_len _ _ _) (Nat.mul_le_mul h1 h2)
theorem bl_small (ss : List ByteArray) (hok : validB ss = true) : SmallL (bl ss) := by
  have V := vp_of hok
  exact spL_small _ _ ss.length _ V.w16 V.w1 (Nat.le_refl _) V.n16
def askB (ss : List ByteArray) (k : Int) : Bool := validB ss && inB k 0 2
def someBl (ss : List ByteArray) (k : Int) : Bool := askB ss k && decide (0 < (bl ss).length)

end Go.Proofs.YtnmnlbgialolhaaDoor

/- Contracts of single functions, and plain lemmas, on which the exact laws of this seat rest; each holds under the conditions that it states. -/
namespace Go.Proofs.YtnmnlbgialolhaaDoor
set_option linter.unusedVariables false
set_option linter.unusedSimpArgs false
open Go.RowKit
attribute [local go_sem] Oper.semAt_some

def neOk (ss : List ByteArray) (k x y : Int) : Bool := someBl ss k && insB (row0 ss).size ss.length x y
def neV (ss : List ByteArray) (k x y : Int) : Int × Int := if neOk ss k x y = true then (nrL k x y (bl ss)).1 else (0, 0)
/-- a spot and a bool -/
def SaysSOk (q : Int × Int) (ok : Bool) (w : World) (e : Ending) (w' : World) : Prop := e = .returned (.tuple #[.agg #[.int .i64 q.1, .int .i64 q.2], .bool ok]) ∧ Below w.heap.size w w'
theorem ins_small {a b : Nat} {x y : Int} (ha : a ≤ 16) (hb : b ≤ 16) (h : insB a b x y = true) : Small x ∧ Small y := by
  unfold insB inB at h
  unfold Small
  simp at h
  omega

end Go.Proofs.YtnmnlbgialolhaaDoor

/- Contracts of single functions, and plain lemmas, on which the exact laws of this seat rest; each holds under the conditions that it states. -/
namespace Go.Proofs.YtnmnlbgialolhaaDoor
set_option linter.unusedVariables false
set_option linter.unusedSimpArgs false
open Go.RowKit
attribute [local go_sem] Oper.semAt_some

/-! ### the least by a comparison -/
def cmpI (a b : Int) : Int := if a < b then -1 else if b < a then 1 else 0
def mnS (d : Int × Int → Int) (m q : Int × Int) : Int × Int := if d q < d m then q else m
def mnL (d : Int × Int → Int) : List (Int × Int) → Int × Int
  | [] => (0, 0)
  | q :: L => L.foldl (mnS d) q
theorem mnL_snoc (d : Int × Int → Int) (L : List (Int × Int)) (q : Int × Int) (h : L ≠ []) : mnL d (L ++ [q]) = mnS d (mnL d L) q := by
  cases L with
  | nil => exact absurd rfl h
  | cons a L => simp [mnL]
theorem mnL_take (d : Int × Int → Int) (L : List (Int × Int)) (i : Nat) (h0 : 1 ≤ i) (hi : i < L.length) : mnL d (L.take (i + 1)) = mnS d (mnL d (L.take i)) (L.getD i (0, 0)) := by
  have e : L.take (i + 1) = L.take i ++ [L.getD i (0, 0)] := by
    rw [List.take_add_one, List.getD_eq_getElem?_getD, List.getElem?_eq_getElem hi]
    rfl
  rw [e, mnL_snoc]
  intro hn
  have := congrArg List.length hn
  rw [List.length_take, List.length_nil] at this
  omega
theorem mnL_one (d : Int × Int → Int) (L : List (Int × Int)) (h : 0 < L.length) : mnL d (L.take 1) = L.getD 0 (0, 0) := by
  cases L with
  | nil => simp at h
  | cons a L => rfl
theorem nrL_mnL (k x y : Int) (hd : ∀ q : Int × Int, 0 ≤ farI k x y q.1 q.2) : ∀ L : List (Int × Int), L ≠ [] → nrL k x y L = (mnL (fun q => farI k x y q.1 q.2) L, farI k x y (mnL (fun q => farI k x y q.1 q.2) L).1 (mnL (fun q => farI k x y q.1 q.2) L).2) := by
  intro L h
  cases L with
  | nil => exact absurd rfl h
  | cons a L =>
    have : ∀ (L : List (Int × Int)) (m : Int × Int), L.foldl (nrS k x y) (m, farI k x y m.1 m.2) = (L.foldl (mnS (fun q => farI k x y q.1 q.2)) m, farI k x y (L.foldl (mnS (fun q => farI k x y q.1 q.2)) m).1 (L.foldl (mnS (fun q => farI k x y q.1 q.2)) m).2) := by
      intro L
      induction L with
      | nil => intro m; rfl
      | cons q L ih =>
        intro m
        rw [List.foldl_cons, List.foldl_cons]
        have h0 := hd m
        have e : nrS k x y (m, farI k x y m.1 m.2) q = (mnS (fun q => farI k x y q.1 q.2) m q, farI k x y (mnS (fun q => farI k x y q.1 q.2) m q).1 (mnS (fun q => farI k x y q.1 q.2) m q).2) := by
          unfold nrS mnS
          by_cases hc : farI k x y q.1 q.2 < farI k x y m.1 m.2
          · rw [if_pos (Or.inr hc), if_pos hc]
          · rw [if_neg (by intro h; rcases h with h | h; exact absurd h (by omega); exact hc h), if_neg hc]
        rw [e, ih]
    have e0 : nrL k x y (a :: L) = L.foldl (nrS k x y) (a, farI k x y a.1 a.2) := by
      unfold nrL
      rw [List.foldl_cons]
      rfl
    rw [e0, this]
    rfl
theorem mnL_small (d : Int × Int → Int) (L : List (Int × Int)) (hL : SmallL L) : Small (mnL d L).1 ∧ Small (mnL d L).2 := by
  cases L with
  | nil => show Small 0 ∧ Small 0; unfold Small; decide
  | cons a L =>
    have : ∀ (L : List (Int × Int)) (m : Int × Int), SmallL L → (Small m.1 ∧ Small m.2) → (Small (L.foldl (mnS d) m).1 ∧ Small (L.foldl (mnS d) m).2) := by
      intro L
      induction L with
      | nil => intro m _ h; exact h
      | cons q L ih =>
        intro m hL h
        rw [List.foldl_cons]
        refine ih _ (fun p hp => hL p (by simp [hp])) ?_
        unfold mnS
        split
        · exact hL q (by simp)
        · exact h
    exact this L a (fun p hp => hL p (by simp [hp])) (hL a (by simp))
theorem farI_nonneg (k ax ay bx b_y : Int) : 0 ≤ farI k ax ay bx b_y := by
  have h1 : 0 ≤ absI (ax - bx) := by unfold absI; omega
  have h2 : 0 ≤ absI (ay - b_y) := by unfold absI; omega
  have h3 := Int.mul_nonneg h1 h1
  have h4 := Int.mul_nonneg h2 h2
  unfold farI
  split
  · omega
  · split <;> omega

end Go.Proofs.YtnmnlbgialolhaaDoor
