/- Contracts of single functions, and plain lemmas, on which the exact laws of this seat rest; each holds under the conditions that it states. -/
import Derived.Test.YtakaglbbcaplhaaDoorSu
import Derived.Test.YtakaglbbcaplhaaDoorLf
import Derived.Test.YtakaglbbcaplhaaDoorD7
import Derived.Test.YtakaglbbcaplhaaDoorPb
import Derived.Test.YtakaglbbcaplhaaDoorTa
import Derived.Test.YtakaglbbcaplhaaDoorSc
import Derived.Test.YtakaglbbcaplhaaDoorRc
import Derived.RegionTactic
import Derived.BigRegion
import Derived.Test.YtakaglbbcaplhaaDoorD8
import Derived.Test.YtakaglbbcaplhaaDoorCb
namespace Go.Proofs.YtakaglbbcaplhaaDoor
set_option linter.unusedVariables false
open Go.RowKit


/-- the pixels that are done of a matrix that is being made -/
structure TuG (W : World) (t wd h : Nat) (g : Nat → Nat) (D : Nat → Nat → Prop) (f : Nat → Nat → Bool) : Prop where
  c : W.heap[t]? = some (.cells (mat wd h g) 73 (0, 0))
  lt : ∀ j, g j < 4294967296
  bit : ∀ j i, j < h → i < wd → D j i → (g j).testBit i = f j i
theorem TuG.below {W W' : World} {t wd h : Nat} {g : Nat → Nat} {D : Nat → Nat → Prop} {f : Nat → Nat → Bool} (H : TuG W t wd h g D f) (hb : Below W.heap.size W W') : TuG W' t wd h g D f :=
  ⟨(hb.block _ (Array.getElem?_eq_some_iff.1 H.c).1).trans H.c, H.lt, H.bit⟩
theorem TuG.imp {W : World} {t wd h : Nat} {g : Nat → Nat} {D D' : Nat → Nat → Prop} {f : Nat → Nat → Bool} (H : TuG W t wd h g D f) (hd : ∀ j i, j < h → i < wd → D' j i → D j i) : TuG W t wd h g D' f :=
  ⟨H.c, H.lt, fun j i hj hi h2 => H.bit j i hj hi (hd j i hj hi h2)⟩
theorem TuG.step {W W' : World} {t wd h : Nat} {g : Nat → Nat} {D D' : Nat → Nat → Prop} {f : Nat → Nat → Bool} {q p : Nat} {bk : Bool} (H : TuG W t wd h g D f) (hw : wd ≤ 16) (hc : W'.heap[t]? = some (.cells (mat wd h (updG g q p bk)) 73 (0, 0))) (hp : p < 16)
    (hbk : bk = f q p) (hD : ∀ j i, j < h → i < wd → D' j i → D j i ∨ (j = q ∧ i = p)) : TuG W' t wd h (updG g q p bk) D' f := by
  refine ⟨hc, upd_all H.lt q p bk hp, fun j i hj hi h2 => ?_⟩
  unfold updG
  by_cases h1 : j = q
  · subst h1
    rw [if_pos rfl, upd_bit _ _ _ _ hp (by omega)]
    by_cases h3 : i = p
    · subst h3; rw [if_pos rfl]; exact hbk
    · rw [if_neg h3]
      rcases hD j i hj hi h2 with h4 | h4
      · exact H.bit j i hj hi h4
      · exact absurd h4.2 h3
  · rw [if_neg h1]
    rcases hD j i hj hi h2 with h4 | h4
    · exact H.bit j i hj hi h4
    · exact absurd h4.1 h1
theorem TuG.pic {W : World} {t wd h : Nat} {g : Nat → Nat} {D : Nat → Nat → Prop} {f : Nat → Nat → Bool} (H : TuG W t wd h g D f) (hd : ∀ j i, j < h → i < wd → D j i) : mkPic wd h (fun y x => blackB wd h g x y) = mkPic wd h f :=
  mkPic_congr fun y hy x hx => by
    have hh : hasB wd h x y = true := by rw [hasB_insB]; exact in_range hx hy
    unfold blackB
    rw [hh, Bool.true_and, Int.toNat_natCast, Int.toNat_natCast]
    exact H.bit y x hy hx (hd y x hy hx)
theorem TuG.zero {W : World} {t wd h : Nat} {D : Nat → Nat → Prop} {f : Nat → Nat → Bool} (hc : W.heap[t]? = some (.cells (mcells wd h (fun _ => 0)) 73 (0, 0))) (hd : ∀ j i, ¬ D j i) : TuG W t wd h (fun _ => 0) D f :=
  ⟨hc, fun _ => by omega, fun j i _ _ h => absurd h (hd j i)⟩

theorem swap_facts {w1 W3 : World} {M X : Array Value} {t : TypeId} (hW : ((w1.alloc (.cells M t)).alloc (.cells X t)).drew = W3) :
    W3.heap[w1.heap.size]? = some (.cells M t (0, 0)) ∧ W3.heap[w1.heap.size + 1]? = some (.cells X t (0, 0)) ∧ Below w1.heap.size w1 W3 := by
  subst hW
  refine ⟨?_, ?_, (Joins.below_alloc2 w1 _ _).drew⟩
  · show ((w1.alloc (.cells M t)).alloc (.cells X t)).heap[w1.heap.size]? = _
    rw [Below.heap_alloc _ _ _ (by simp)]; exact heap_alloc_last w1 _
  · show ((w1.alloc (.cells M t)).alloc (.cells X t)).heap[w1.heap.size + 1]? = _
    exact heap_alloc2_new _ _ _
end Go.Proofs.YtakaglbbcaplhaaDoor

/- Contracts of single functions, and plain lemmas, on which the exact laws of this seat rest; each holds under the conditions that it states. -/
namespace Go.Proofs.YtakaglbbcaplhaaDoor
set_option linter.unusedVariables false
set_option linter.unusedSimpArgs false
open Go.RowKit

def spV (ss : List ByteArray) : List (Int × Int) := if validB ss then spL (pixF ss) (row0 ss).size ((row0 ss).size * ss.length) else []

end Go.Proofs.YtakaglbbcaplhaaDoor

/- Contracts of single functions, and plain lemmas, on which the exact laws of this seat rest; each holds under the conditions that it states. -/
namespace Go.Proofs.YtakaglbbcaplhaaDoor
set_option linter.unusedVariables false
set_option linter.unusedSimpArgs false
open Go.RowKit
attribute [local go_sem] Oper.semAt_some

/-- the black pixels in reading order -/
def bl (ss : List ByteArray) : List (Int × Int) := spL (pixF ss) (row0 ss).size ((row0 ss).size * ss.length)
theorem spL_rs {ss : List ByteArray} (V : VP ss) : ∀ y, y ≤ ss.length → ∀ x, x ≤ (row0 ss).size → y * (row0 ss).size + x ≤ (row0 ss).size * ss.length → (spL (pixF ss) (row0 ss).size (y * (row0 ss).size + x)).length = rs (wordsOf ss) y + bs (wordsOf ss y) x
  | 0, hy, 0, hx, h => by simp [spL, rs, bs]
  | y + 1, hy, 0, hx, h => by
    have ih := spL_rs V y (by omega) (row0 ss).size (Nat.le_refl _) (by rw [← Nat.succ_mul]; exact h)
    rw [Nat.add_zero, Nat.succ_mul, ih, rs_succ, bs_row V y]
    rfl
  | y, hy, x + 1, hx, h => by
    have ih := spL_rs V y hy x (by omega) (by omega)
    have hyl : y < ss.length := by
      rcases Nat.lt_or_ge y ss.length with h1 | h1
      · exact h1
      · have : y = ss.length := by omega
        subst this
        rw [Nat.mul_comm] at h
        omega
    rw [← Nat.add_assoc, spL_snoc _ _ _ _ (by omega), List.length_append, ih, bs_succ, words_at V y x hyl (by omega)]
    cases pixF ss y x <;> simp <;> omega
theorem bl_rs {ss : List ByteArray} (V : VP ss) : rs (wordsOf ss) ss.length = (bl ss).length := by
  have := spL_rs V ss.length (Nat.le_refl _) 0 (Nat.zero_le _) (by rw [Nat.mul_comm]; omega)
  rw [Nat.add_zero, Nat.mul_comm] at this
  unfold bl
  rw [this]
  rfl
theorem bl_len (ss : List ByteArray) (hok : validB ss = true) : (bl ss).length ≤ 256 := by
  have V := vp_of hok
  have h1 := V.w16
  have h2 := V.n16
  exact Nat.le_trans (spL_len _ _ _) (Nat.mul_le_mul h1 h2)
theorem bl_small (ss : List ByteArray) (hok : validB ss = true) : SmallL (bl ss) := by
  have V := vp_of hok
  exact spL_small _ _ ss.length _ V.w16 V.w1 (Nat.le_refl _) V.n16
def askB (ss : List ByteArray) (k : Int) : Bool := validB ss && inB k 0 2
def someBl (ss : List ByteArray) (k : Int) : Bool := askB ss k && decide (0 < (bl ss).length)

set_option maxHeartbeats 2000000 in
set_option maxRecDepth 100000 in
theorem l06Ask_any (pb po : Nat) (v : Value) (ss : List ByteArray) (k : Int) (w : World) (hc : w.cell? ⟨pb, po, none⟩ = some v) (hv : Sl w v ss) (hN : ss.length ≤ maxLen) (hz : ∀ s ∈ ss, s.size ≤ maxLen) :
    Calls Tryd.prog 111 #[.pointer (some ⟨pb, po, none⟩), .int .i64 k] w (SaysB (askB ss k) w) := by
  have C1 := Lib.hid (l01Is_any pb po v ss w hc hv hN hz)
  have C2 := Lib.hid (fun W => l06Kind_any k W)
  have HV : Hid (askB ss k = (validB ss && inB k 0 2)) := rfl
  obtain ⟨b, hb⟩ : ∃ b, validB ss = b := ⟨_, rfl⟩
  obtain ⟨c, hcc⟩ : ∃ c, inB k 0 2 = c := ⟨_, rfl⟩
  rw [hb] at C1 HV
  rw [hcc] at C2 HV
  clear hb hcc hc hv
  go_enter Tryd.func111, Tryd.ntmps111
  go_wp2_with fail
  refine C1.out.mono ?_
  rintro e w1 ⟨rfl, hb1⟩
  have B1 := Lib.hid hb1
  clear hb1
  cases b with
  | false =>
    have HR : Hid (askB ss k = false) := HV.out
    clear HV
    go_wp2_with fail
    go_ret
    exact ⟨ret_bool HR.out.symm, B1.out⟩
  | true =>
    have HR : Hid (askB ss k = c) := HV.out
    clear HV
    go_wp2_with fail
    refine (C2.out _).mono ?_
    rintro e w' ⟨rfl, rfl⟩
    go_wp2_with fail
    go_ret
    exact ⟨ret_bool HR.out.symm, B1.out⟩

set_option maxHeartbeats 2000000 in
set_option maxRecDepth 100000 in
theorem l06Some_any (pb po : Nat) (v : Value) (ss : List ByteArray) (k : Int) (w : World) (hc : w.cell? ⟨pb, po, none⟩ = some v) (hv : Sl w v ss) (hN : ss.length ≤ maxLen) (hz : ∀ s ∈ ss, s.size ≤ maxLen) :
    Calls Tryd.prog 100 #[.pointer (some ⟨pb, po, none⟩), .int .i64 k] w (SaysB (someBl ss k) w) := by
  have C1 := Lib.hid (l06Ask_any pb po v ss k w hc hv hN hz)
  have C2 : Hid (askB ss k = true → ∀ W, Below w.heap.size w W → Calls Tryd.prog 154 #[.pointer (some ⟨pb, po, none⟩)] W fun e w' => e = .returned (.int .i64 ((bl ss).length : Nat)) ∧ W = w') := fun h W hb => by
    have hok : validB ss = true := by unfold askB at h; simp at h; exact h.1
    have := l01Count_any pb po ss W ⟨hok, v, cell_kept hb hc, hv.below hb⟩
    rwa [bl_rs (vp_of hok)] at this
  have HV : Hid (someBl ss k = (askB ss k && decide (0 < (bl ss).length))) := rfl
  obtain ⟨b, hb⟩ : ∃ b, askB ss k = b := ⟨_, rfl⟩
  rw [hb] at C1 C2 HV
  obtain ⟨m, hm⟩ : ∃ m, (bl ss).length = m := ⟨_, rfl⟩
  rw [hm] at C2 HV
  clear hb hc hv hm
  go_enter Tryd.func100, Tryd.ntmps100
  go_wp2_with fail
  refine C1.out.mono ?_
  rintro e w1 ⟨rfl, hb1⟩
  have B1 := Lib.hid hb1
  clear hb1
  cases b with
  | false =>
    have HR : Hid (someBl ss k = false) := HV.out
    clear HV
    go_wp2_with fail
    go_ret
    exact ⟨ret_bool HR.out.symm, B1.out⟩
  | true =>
    have HR : Hid (someBl ss k = decide (0 < m)) := HV.out
    have C3 := Lib.hid (C2.out (by trivial) w1 B1.out)
    clear HV C2
    go_wp2_with fail
    refine C3.out.mono ?_
    rintro e w' ⟨rfl, rfl⟩
    by_cases h0 : 0 < m
    · have HR2 : Hid (someBl ss k = true) := by show _ = _; rw [HR.out]; exact decide_eq_true h0
      clear HR
      go_wp2_with fail
      go_ret
      exact ⟨ret_bool HR2.out.symm, B1.out⟩
    · have HR2 : Hid (someBl ss k = false) := by show _ = _; rw [HR.out]; exact decide_eq_false h0
      clear HR
      go_wp2_with fail
      go_ret
      exact ⟨ret_bool HR2.out.symm, B1.out⟩
end Go.Proofs.YtakaglbbcaplhaaDoor
