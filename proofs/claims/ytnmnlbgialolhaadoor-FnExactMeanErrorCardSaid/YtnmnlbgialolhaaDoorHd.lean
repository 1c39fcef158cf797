/- Plain lemmas and words that every walk of this seat uses. -/
import Derived.Test.YtnmnlbgialolhaaDoorProg
import Derived.WalkKit
import Derived.WalkSpells
import Derived.WalkLawsBesides
import Derived.Below
import Derived.Laws.RangeAny
import Derived.Outline
import Derived.Lib.Hide
import Derived.Lib.SmallJoins
import Derived.Deep.DeepMust
import Derived.Deep.LoopGhost
import Derived.Deep.QuietTactic
import Derived.BigQuiet
import Derived.Laws.IdiomStrings
import Derived.Deep.RegionHeld3
namespace Go.Proofs.YtnmnlbgialolhaaDoor
set_option linter.unusedVariables false
open Go.RowKit

theorem ret_bool {a b : Bool} (h : a = b) : Ending.returned (.bool a) = .returned (.bool b) := by rw [h]
theorem ret_int {k : IntKind} {a b : Int} (h : a = b) : Ending.returned (.int k a) = .returned (.int k b) := by rw [h]

theorem bcell {W w1 : World} (hb : Below W.heap.size W w1) : (∀ b o, b < W.heap.size → w1.cell? ⟨b, o, none⟩ = W.cell? ⟨b, o, none⟩) ∧ (∀ b o, b < W.heap.size → w1.frozen? ⟨b, o, none⟩ = W.frozen? ⟨b, o, none⟩) :=
  ⟨fun b o h => hb.cell (p := ⟨b, o, none⟩) h, fun b o h => hb.frozen (p := ⟨b, o, none⟩) h⟩

/-- cell's block exists -/
theorem blk_lt {w : World} {b o : Nat} {v : Value} (h : w.cell? ⟨b, o, none⟩ = some v) : b < w.heap.size := World.block_lt_of_cell? w ⟨b, o, none⟩ h

/-- The strings ss lie in w from block b, offset off on. -/
def Strs (w : World) (b off : Nat) (ss : List ByteArray) : Prop := b < w.heap.size ∧ ∀ i, i < ss.length → w.cell? ⟨b, off + i, none⟩ = some (.string (ss.getD i ByteArray.empty))

theorem Strs.below {w w' : World} {b off : Nat} {ss : List ByteArray} {B : Nat} (h : Strs w b off ss) (hb : Below B w w') (hB : b < B) : Strs w' b off ss :=
  ⟨Nat.lt_of_lt_of_le h.1 hb.size, fun i hi => (hb.cell (p := ⟨b, off + i, none⟩) hB).trans (h.2 i hi)⟩

/-- a row of strings of the call's own -/
theorem own_strs {w : World} {base g n cap : Nat} {ss : List ByteArray} (e : TypeId) (h : w.ownsRow base e 1 (.slice (some ⟨g, 0, none⟩) n cap) n (ss.map Value.string)) : Strs w g 0 ss := by
  have hl := h.1
  simp at hl
  refine ⟨(h.lt g rfl).2, fun i hi => ?_⟩
  have := h.cellAt i (by omega)
  rw [Nat.zero_add, this]
  simp [hi]

theorem getD_map_str (ss : List ByteArray) (i : Nat) (h : i < ss.length) : (ss.map Value.string)[i]? = some (.string (ss.getD i ByteArray.empty)) := by
  simp [h]

theorem set_prefix {α : Type} (f : Nat → α) (z : α) (n k : Nat) (h : k < n) :
    (((List.range k).map f) ++ List.replicate (n - k) z).set k (f k) = ((List.range (k + 1)).map f) ++ List.replicate (n - (k + 1)) z := by
  rw [show n - k = (n - (k + 1)) + 1 from by omega, List.replicate_succ, List.range_succ, List.map_append]
  have : ((List.range k).map f).length = k := by simp
  rw [List.set_append]
  simp [this]

theorem range_getD (ss : List ByteArray) : (List.range ss.length).map (fun i => Value.string (ss.getD i ByteArray.empty)) = ss.map Value.string := by
  apply List.ext_getElem?
  intro i
  by_cases hi : i < ss.length
  · simp [hi]
  · simp [hi]

theorem Tryd.info9 : (Tryd.prog.info? 9).map (fun i => (i.zero, i.size, i.bytes)) = some (some (.string ⟨#[]⟩), 1, 16) := by kernel_rfl

/-- A value that is a slice of the strings ss: empty, whatever it points to; or its cells lie there. -/
def Sl (w : World) (v : Value) (ss : List ByteArray) : Prop :=
  (∃ ao cap, v = .slice ao 0 cap ∧ ss = []) ∨ (∃ b off cap, v = .slice (some ⟨b, off, none⟩) ss.length cap ∧ 0 < ss.length ∧ Strs w b off ss)

theorem Sl.below {w w' : World} {v : Value} {ss : List ByteArray} (h : Sl w v ss) (hb : Below w.heap.size w w') : Sl w' v ss := by
  rcases h with h | ⟨b, off, cap, h1, h2, h3⟩
  · exact Or.inl h
  · exact Or.inr ⟨b, off, cap, h1, h2, h3.below hb h3.1⟩

/-- A slice of strings of the call's own. -/
def OwnP (w : World) (base : Nat) (v : Value) (ss : List ByteArray) : Prop := w.ownsRow base 9 1 v ss.length (ss.map Value.string)

theorem OwnP.sl {w : World} {base : Nat} {v : Value} {ss : List ByteArray} (h : OwnP w base v ss) : Sl w v ss := by
  rcases Joins.ownsRow_forms h with ⟨rfl, h0⟩ | ⟨g, cap, rfl⟩
  · exact Or.inl ⟨none, 0, rfl, List.length_eq_zero_iff.1 h0⟩
  · by_cases h0 : ss.length = 0
    · have := List.length_eq_zero_iff.1 h0
      subst this
      exact Or.inl ⟨_, _, rfl, rfl⟩
    · exact Or.inr ⟨g, 0, cap, rfl, by omega, own_strs _ h⟩

theorem OwnP.below {w w' : World} {base : Nat} {v : Value} {ss : List ByteArray} (h : OwnP w base v ss) (hb : Below w.heap.size w w') : OwnP w' base v ss := by
  refine ⟨h.1, ?_⟩
  rcases h.2 with h2 | ⟨g, cap, cur, hv, hg, hh, r⟩
  · exact Or.inl h2
  · exact Or.inr ⟨g, cap, cur, hv, hg, by rw [hb.block g (Array.getElem?_eq_some_iff.1 hh).1]; exact hh, r⟩

theorem OwnP.mono {w : World} {base base' : Nat} {v : Value} {ss : List ByteArray} (h : OwnP w base v ss) (hb : base' ≤ base) : OwnP w base' v ss := Joins.ownsRow_le h hb

/-- An ending that hands back a picture with the rows ss, in memory of its own. -/
def NewPic (w : World) (ss : List ByteArray) (e : Ending) (w' : World) : Prop := ∃ v, e = .returned (.agg #[v]) ∧ OwnP w' w.heap.size v ss ∧ Below w.heap.size w w'
/-- An ending that hands back a picture with the rows ss whose slice begins at a block's head. -/
def TookPic (w : World) (ss : List ByteArray) (e : Ending) (w' : World) : Prop := ∃ g cap, e = .returned (.agg #[.slice (some ⟨g, 0, none⟩) ss.length cap]) ∧ OwnP w' w.heap.size (.slice (some ⟨g, 0, none⟩) ss.length cap) ss ∧ Below w.heap.size w w'
/-- .. a picture and a bool -/
def NewPic2 (w : World) (ss : List ByteArray) (ok : Bool) (e : Ending) (w' : World) : Prop := ∃ v, e = .returned (.tuple #[.agg #[v], .bool ok]) ∧ OwnP w' w.heap.size v ss ∧ Below w.heap.size w w'

/-- the sizes' sum goes down -/
def SomeSz (left : Int) (ss : List ByteArray) (w : World) (e : Ending) (w' : World) : Prop :=
  ∃ r : Int, e = .returned (.int .i64 r) ∧ r ≤ left ∧ -1 ≤ r ∧ (0 ≤ r → (ss.length : Int) ≤ left ∧ ∀ s ∈ ss, (s.size : Int) ≤ left) ∧ Below w.heap.size w w'

/-! ### digits of marks -/
def digs (k : Nat) : List UInt8 := if h : k = 0 then [] else digs (k / 10) ++ [UInt8.ofNat (48 + k % 10)]
decreasing_by omega
theorem digs_len (k : Nat) : (digs k).length ≤ k := by
  induction k using Nat.strongRecOn with
  | _ k ih =>
    unfold digs
    split
    · simp
    · have := ih (k / 10) (by omega)
      simp; omega
def mt (k : Nat) : ByteArray := if k = 0 then ⟨#[109, 48]⟩ else ⟨(109 :: digs k).toArray⟩

end Go.Proofs.YtnmnlbgialolhaaDoor

/- Contracts of single functions, and plain lemmas, on which the exact laws of this seat rest; each holds under the conditions that it states. -/
namespace Go.Proofs.YtnmnlbgialolhaaDoor
set_option linter.unusedVariables false
open Go.RowKit

theorem str_ne {s t : ByteArray} (h : s ≠ t) : (s.toList == t.toList) = false := by
  rw [beq_eq_false_iff_ne, ByteArray.toList_eq, ByteArray.toList_eq]
  exact fun e => h (WideShapes.bytes_inj e)

def sameL (xs ys : List ByteArray) : Bool := decide (xs = ys)

theorem sameL_no {xs ys : List ByteArray} {k : Nat} (h : xs.getD k ByteArray.empty ≠ ys.getD k ByteArray.empty) : sameL xs ys = false := by
  unfold sameL
  rw [decide_eq_false_iff_not]
  intro e; exact h (by rw [e])

theorem sameL_yes {xs ys : List ByteArray} {n : Nat} (ha : xs.length = n) (hb : ys.length = n) (h : ∀ j, j < n → xs.getD j ByteArray.empty = ys.getD j ByteArray.empty) : sameL xs ys = true := by
  unfold sameL
  rw [decide_eq_true_iff]
  apply List.ext_getElem (by omega)
  intro i h1 h2
  have := h i (by omega)
  rwa [List.getD_eq_getElem?_getD, List.getD_eq_getElem?_getD, List.getElem?_eq_getElem h1, List.getElem?_eq_getElem h2] at this

/-- an ending that answers b, with no more than new blocks -/
def SaysB (b : Bool) (w : World) (e : Ending) (w' : World) : Prop := e = .returned (.bool b) ∧ Below w.heap.size w w'

set_option maxHeartbeats 1000000 in
theorem eqStringS_any (u v : Value) (xs ys : List ByteArray) (w : World) (hA : xs.length ≤ maxLen) (hB : ys.length ≤ maxLen) (hu : Sl w u xs) (hv : Sl w v ys) :
    Calls Tryd.prog 45 #[u, v] w (SaysB (sameL xs ys) w) := by
  unfold maxLen at hA hB
  have fu : ∃ ao cap, u = .slice ao xs.length cap := by
    rcases hu with ⟨ao, cap, rfl, rfl⟩ | ⟨b, off, cap, rfl, _⟩
    · exact ⟨_, _, rfl⟩
    · exact ⟨_, _, rfl⟩
  have fv : ∃ ao cap, v = .slice ao ys.length cap := by
    rcases hv with ⟨ao, cap, rfl, rfl⟩ | ⟨b, off, cap, rfl, _⟩
    · exact ⟨_, _, rfl⟩
    · exact ⟨_, _, rfl⟩
  by_cases hl : xs.length = ys.length
  · rcases hu with ⟨ao, cap, rfl, rfl⟩ | ⟨b, off, cap, rfl, hpos, hb, hc⟩
    · obtain rfl := List.length_eq_zero_iff.1 hl.symm
      obtain ⟨ao2, cap2, rfl⟩ := fv
      go_enter Tryd.func45, Tryd.ntmps45
      go_wp2
      refine wp_loop_rounds 1 ?_; rw [rounds_succ]
      go_wp2
      go_ret
      exact ⟨rfl, Below.refl _ _⟩
    · rcases hv with ⟨ao2, cap2, rfl, rfl⟩ | ⟨b2, off2, cap2, rfl, hpos2, hb2, hc2⟩
      · simp at hl; subst hl; simp at hpos
      · clear fu fv
        obtain ⟨n, hn⟩ : ∃ n, xs.length = n := ⟨_, rfl⟩
        have hn2 : ys.length = n := by omega
        rw [hn] at hc hpos ⊢
        rw [hn2] at hc2 ⊢
        have HN := Lib.hid hn
        have HN2 := Lib.hid hn2
        have HC := Lib.hid hc
        have HC2 := Lib.hid hc2
        have hN : n ≤ 2 ^ 63 - 1 := by omega
        clear hn hn2 hc hc2 hl hpos2 hA hB
        go_enter Tryd.func45, Tryd.ntmps45
        go_wp2
        go_loopw [5] (fun i wr => ∃ k : Nat, k ≤ n ∧ i = .int .i64 k ∧ Hid (∀ j, j < k → xs.getD j ByteArray.empty = ys.getD j ByteArray.empty) ∧ Below w.heap.size w wr) (fun i _ => n - (intOf i).toNat)
        case atStart => exact ⟨0, Nat.zero_le _, rfl, fun j h => by omega, Below.refl _ _⟩
        case round =>
          obtain ⟨k, hk, rfl, H, hbel⟩ := hrel
          by_cases hlt : k < n
          · have hcell := (hbel.cell (p := ⟨b, off + k, none⟩) hb).trans (HC.out k hlt)
            have hcell2 := (hbel.cell (p := ⟨b2, off2 + k, none⟩) hb2).trans (HC2.out k hlt)
            obtain ⟨s, hs⟩ : ∃ s, xs.getD k ByteArray.empty = s := ⟨_, rfl⟩
            obtain ⟨s2, hs2⟩ : ∃ s, ys.getD k ByteArray.empty = s := ⟨_, rfl⟩
            rw [hs] at hcell
            rw [hs2] at hcell2
            have Hs := Lib.hid hs
            have Hs2 := Lib.hid hs2
            have HB := Lib.hid hbel
            clear hs hs2 hbel
            have k0 : (0 : Int) ≤ (k : Int) := by omega
            have k1 : (k : Int) < (n : Int) := by omega
            by_cases he : s = s2
            · subst he
              go_wp2
              go_quiet (fail)
              go_wp2
              go_roundw
              case rel => exact ⟨k + 1, by omega, by go_num, fun j hj => by
                by_cases e : j = k
                · subst e; rw [Hs.out, Hs2.out]
                · exact H.out j (by omega), HB.out.trans (Joins.below_draws _ _ _)⟩
              case measure => simp [intOf]; omega
            · have he2 : (s.toList == s2.toList) = false := str_ne he
              have hno := Lib.hid (sameL_no (xs := xs) (ys := ys) (k := k) (by rw [Hs.out, Hs2.out]; exact he))
              clear he
              go_wp2
              go_quiet (fail)
              go_wp2
              go_ret
              exact ⟨ret_bool (a := false) hno.out.symm, HB.out.trans (Joins.below_draws _ _ _)⟩
          · obtain rfl : k = n := by omega
            have hyes := Lib.hid (sameL_yes HN.out HN2.out H.out)
            have HB := Lib.hid hbel
            clear hbel
            go_wp2
            go_ret
            exact ⟨ret_bool (a := true) hyes.out.symm, HB.out⟩
  · have hno : sameL xs ys = false := by
      unfold sameL; rw [decide_eq_false_iff_not]; intro e; exact hl (by rw [e])
    have HNo := Lib.hid hno
    obtain ⟨ao, cap, rfl⟩ := fu
    obtain ⟨ao2, cap2, rfl⟩ := fv
    have hl2 : ((xs.length : Int) == (ys.length : Int)) = false := by simp; omega
    clear hno hu hv
    go_enter Tryd.func45, Tryd.ntmps45
    go_wp2
    go_ret
    exact ⟨ret_bool (a := false) HNo.out.symm, Below.refl _ _⟩

theorem eqPicture_any (u v : Value) (xs ys : List ByteArray) (w : World) (hA : xs.length ≤ maxLen) (hB : ys.length ≤ maxLen) (hu : Sl w u xs) (hv : Sl w v ys) :
    Calls Tryd.prog 14 #[.agg #[u], .agg #[v]] w (SaysB (sameL xs ys) w) := by
  obtain ⟨r, hr⟩ : ∃ r, sameL xs ys = r := ⟨_, rfl⟩
  have c := fun w' (hb : Below w.heap.size w w') => eqStringS_any u v xs ys w' hA hB (hu.below hb) (hv.below hb)
  rw [hr] at c ⊢
  have C := Lib.hid c
  clear c hr
  cases r
  all_goals
    go_enter Tryd.func14, Tryd.ntmps14
    go_wp2_with fail
    refine (C.out _ (Joins.below_alloc2 w _ _)).mono ?_
    rintro e w' ⟨rfl, hb⟩
    have HB := Lib.hid hb
    clear hb
    go_wp2_with fail
    go_ret
    exact ⟨rfl, (Joins.below_alloc2 w _ _).trans (HB.out.mono (by simp; omega))⟩
end Go.Proofs.YtnmnlbgialolhaaDoor

/- Contracts of single functions, and plain lemmas, on which the exact laws of this seat rest; each holds under the conditions that it states. -/
namespace Go.Proofs.YtnmnlbgialolhaaDoor
set_option linter.unusedVariables false
open Go.RowKit

theorem digs_step (j : Nat) (h : 0 < j) (l : List UInt8) : digs j ++ l = digs (j / 10) ++ (UInt8.ofNat (48 + j % 10) :: l) := by
  conv => lhs; unfold digs
  rw [dif_neg (by omega)]
  simp

theorem digs_zero : digs 0 = [] := by unfold digs; simp
theorem bpush (c : UInt8) (l : List UInt8) : (⟨#[c]⟩ : ByteArray) ++ ⟨l.toArray⟩ = ⟨(c :: l).toArray⟩ := by
  rw [ByteArray.mk_append_mk]; simp

theorem conv_one (w : World) (j : Nat) : (convert 50 9 (.slice (some ⟨w.heap.size, 0, none⟩) 1 1)).run Tryd.prog (w.alloc (.cells #[.int .u8 (48 + (j : Int) % 10)] 5)) = .ok (.string ⟨[UInt8.ofNat (48 + j % 10)].toArray⟩) (w.alloc (.cells #[.int .u8 (48 + (j : Int) % 10)] 5)) := by
  have e : ((UInt8.ofNat (48 + j % 10)).toNat : Int) = 48 + (j : Int) % 10 := by
    rw [UInt8.toNat_ofNat_of_lt' (by have := Nat.mod_lt j (show 0 < 10 by omega); show _ < 256; omega)]
    omega
  exact run_convert_bytes_back (P := Tryd.prog) (w.alloc (.cells #[.int .u8 (48 + (j : Int) % 10)] 5)) 50 9 5 ⟨w.heap.size, 0, none⟩ 1 [UInt8.ofNat (48 + j % 10)] Tryd.underlying50 Tryd.underlying5 Tryd.underlying9
    (fun i hi => by
      obtain rfl : i = 0 := by simpa using hi
      rw [List.getElem_cons_zero, e]
      simp [Addr.add])

set_option maxHeartbeats 400000 in
set_option maxRecDepth 100000 in
theorem markText_any (k : Nat) (w : World) (h1 : 1 ≤ k) (h2 : k ≤ 9000000) :
    Calls Tryd.prog 93 #[.int .i64 k] w fun e w' => e = .returned (.string (mt k)) ∧ Below w.heap.size w w' := by
  have hmt : mt k = ⟨(109 :: digs k).toArray⟩ := by unfold mt; rw [if_neg (by omega)]
  have HM := Lib.hid hmt
  clear hmt
  go_enter Tryd.func93, Tryd.ntmps93
  go_wp2
  go_loopw [0, 3] (fun kv o wr => ∃ (j : Nat) (l : List UInt8), j ≤ k ∧ kv = .int .i64 j ∧ o = .string ⟨l.toArray⟩ ∧ Hid (digs j ++ l = digs k) ∧ l.length + j ≤ k ∧ Below w.heap.size w wr) (fun kv _ _ => (intOf kv).toNat)
  case atStart => exact ⟨k, [], Nat.le_refl _, rfl, rfl, by show digs k ++ [] = digs k; simp, by simp, Below.refl _ _⟩
  case round =>
    obtain ⟨j, l, hj, rfl, rfl, H, hl, hbel⟩ := hrel
    by_cases hp : 0 < j
    · have hcv := conv_one wr j
      have hs := digs_step j hp l
      have HS := Lib.hid hs
      have HB := Lib.hid hbel
      clear hs hbel
      go_wp2
      go_roundw
      case rel => exact ⟨j / 10, UInt8.ofNat (48 + j % 10) :: l, by omega, by go_num, by rw [UInt8.ofNat_add]; exact congrArg Value.string (bpush _ _), by show _ = _; rw [← HS.out]; exact H.out, by simp; omega, HB.out.alloc HB.out.size _⟩
      case measure => simp [intOf]; omega
    · obtain rfl : j = 0 := by omega
      have hd : l = digs k := by have := H.out; rwa [digs_zero, List.nil_append] at this
      have HB := Lib.hid hbel
      have HD := Lib.hid hd
      clear hbel hd
      go_wp2
      go_ret
      exact ⟨by rw [HM.out, ← HD.out]; exact congrArg (fun x => Ending.returned (Value.string x)) (bpush _ _), HB.out⟩
end Go.Proofs.YtnmnlbgialolhaaDoor

/- Contracts of single functions, and plain lemmas, on which the exact laws of this seat rest; each holds under the conditions that it states. -/
namespace Go.Proofs.YtnmnlbgialolhaaDoor
set_option linter.unusedVariables false
open Go.RowKit

theorem grown_below {w a b : World} {row : Option Nat} (h : w.grownBy a row) (hb : Below a.heap.size a b) : w.grownBy b row :=
  ⟨hb.os.trans h.os, hb.tape.trans h.tape, hb.output.trans h.output, Nat.le_trans h.size hb.size, fun k hk hr => (hb.block k (Nat.lt_of_lt_of_le hk h.size)).trans (h.block k hk hr)⟩
theorem grown_setCell {w a : World} {g o : Nat} (h : w.grownBy a (some g)) (u : Value) : w.grownBy (a.setCell ⟨g, o, none⟩ u) (some g) :=
  ⟨h.os, h.tape, h.output, Nat.le_trans h.size (by simp [World.setCell]), fun k hk hr => (Below.heap_setCell a ⟨g, o, none⟩ u k (fun e => hr (by rw [e]))).trans (h.block k hk hr)⟩
theorem grown_refl (w : World) (row : Option Nat) : w.grownBy w row := ⟨rfl, rfl, rfl, Nat.le_refl _, fun _ _ _ => rfl⟩
/-- What a row of the call's own shows, behind writes to it alone. -/
theorem Below.grown_own {W w w' : World} {row : Option Nat} {B : Nat} (h : Below B W w) (hg : w.grownBy w' row) (hB : B ≤ w.heap.size) (hr : ∀ k, row = some k → B ≤ k) : Below B W w' := h.grown hg hB hr

theorem set_map_range {α : Type} (f : Nat → α) (n k : Nat) (x : α) : ((List.range n).map f).set k x = (List.range n).map (fun j => if j = k then x else f j) := by
  apply List.ext_getElem?
  intro i
  rw [List.getElem?_set]
  by_cases hi : k = i
  · subst hi
    by_cases hn : k < n <;> simp [hn]
  · have : ¬ i = k := fun e => hi e.symm
    by_cases hn : i < n <;> simp [hi, hn, this]

def marks (k n : Nat) : List ByteArray := (List.range n).map fun i => mt (k + i)
theorem marks_len (k n : Nat) : (marks k n).length = n := by simp [marks]
/-- i of n marks are laid over ss -/
def part (ss : List ByteArray) (k n i : Nat) : List Value := (List.range n).map fun j => if j < i then Value.string (mt (k + j)) else Value.string (ss.getD j ByteArray.empty)
theorem part_zero (ss : List ByteArray) (k : Nat) : part ss k ss.length 0 = ss.map Value.string := by
  unfold part
  simp only [Nat.not_lt_zero, if_false]
  exact range_getD ss
theorem part_full (ss : List ByteArray) (k n : Nat) : part ss k n n = (marks k n).map Value.string := by
  unfold part marks
  rw [List.map_map]
  apply List.map_congr_left
  intro j hj
  simp at hj
  simp [hj]
theorem part_set (ss : List ByteArray) (k n i : Nat) : (part ss k n i).set i (.string (mt (k + i))) = part ss k n (i + 1) := by
  unfold part
  rw [set_map_range]
  apply List.map_congr_left
  intro j hj
  by_cases h1 : j = i
  · subst h1; simp
  · by_cases h2 : j < i
    · simp [h1, h2, show j < i + 1 from by omega]
    · simp [h1, h2, show ¬ j < i + 1 from by omega]
theorem part_at (ss : List ByteArray) (k n i : Nat) (h : i < n) : (part ss k n i)[i]? = some (.string (ss.getD i ByteArray.empty)) := by
  unfold part
  simp [h]

/-- strings laid into a row of the call's own -/
def Marked (w : World) (base : Nat) (v : Value) (k n : Nat) (e : Ending) (w' : World) : Prop := e = .returned (.int .i64 ((k + n : Nat) : Int)) ∧ OwnP w' base v (marks k n) ∧ w.grownBy w' v.ownBlock

set_option maxHeartbeats 1000000 in
set_option maxRecDepth 100000 in
theorem markStringS_any (v : Value) (ss : List ByteArray) (base k : Nat) (w : World) (h1 : 1 ≤ k) (h2 : k + ss.length ≤ 9000000) (hv : OwnP w base v ss) :
    Calls Tryd.prog 46 #[v, .int .i64 k] w (Marked w base v k ss.length) := by
  rcases Joins.ownsRow_forms hv with ⟨rfl, h0⟩ | ⟨g, cap, rfl⟩
  · have h0' := List.length_eq_zero_iff.1 h0
    subst h0'
    go_enter Tryd.func46, Tryd.ntmps46
    go_wp2
    refine wp_loop_rounds 1 ?_; rw [rounds_succ]
    go_wp2
    go_ret
    exact ⟨rfl, hv, grown_refl _ _⟩
  · obtain ⟨n, hn⟩ : ∃ n, ss.length = n := ⟨_, rfl⟩
    have hv' : w.ownsRow base 9 1 (.slice (some ⟨g, 0, none⟩) n cap) n (part ss k n 0) := by
      rw [← hn, part_zero]; exact hv
    rw [hn] at h2 ⊢
    have hg := (hv.lt g rfl).2
    clear hv hn
    go_enter Tryd.func46, Tryd.ntmps46
    go_wp2
    go_loopw [1, 5] (fun kv iv wr => ∃ i : Nat, i ≤ n ∧ kv = .int .i64 ((k : Int) + i) ∧ iv = .int .i64 i ∧ wr.ownsRow base 9 1 (.slice (some ⟨g, 0, none⟩) n cap) n (part ss k n i) ∧ w.grownBy wr (some g)) (fun _ iv _ => n - (intOf iv).toNat)
    case atStart => exact ⟨0, Nat.zero_le _, by simp, rfl, hv', grown_refl _ _⟩
    case round =>
      obtain ⟨i, hi, rfl, rfl, hown, hgr⟩ := hrel
      by_cases hlt : i < n
      · have HO := Lib.hid hown
        have HG := Lib.hid hgr
        have HV := Lib.hid hv'
        clear hown hgr hv'
        go_wp2_with fail
        rw [show ((k : Int) + (i : Int)) = ((k + i : Nat) : Int) from by omega]
        refine (markText_any (k + i) _ (by omega) (by omega)).mono ?_
        rintro e w1 ⟨rfl, hb⟩
        have hown1 : w1.ownsRow base 9 1 (.slice (some ⟨g, 0, none⟩) n cap) n (part ss k n i) := HO.out.kept (w' := w1) (row := none) ⟨hb.os, hb.tape, hb.output, hb.size, fun k hk _ => hb.block k hk⟩ (by simp [Value.ownBlock])
        have hfz := hown1.frozenAt i
        have hold := (hown1.cellAt i (by omega)).trans (part_at ss k n i hlt)
        have hst := (hown1.stored i (.string (mt (k + i)))).1
        rw [part_set] at hst
        have HS := Lib.hid hst
        have HG1 := Lib.hid (grown_setCell (o := i) (grown_below HG.out hb) (.string (mt (k + i))))
        obtain ⟨s, hs⟩ : ∃ s, mt (k + i) = s := ⟨_, rfl⟩
        rw [hs] at HS HG1 ⊢
        clear hst hown1 hb hs
        go_wp2
        go_roundw
        case rel => exact ⟨i + 1, by omega, by go_num, by go_num, HS.out, HG1.out⟩
        case measure => simp [intOf]; omega
      · obtain rfl : i = n := by omega
        rw [part_full] at hown
        have HO := Lib.hid hown
        have HG := Lib.hid hgr
        clear hown hgr hv'
        go_wp2
        go_ret
        exact ⟨by simp, by unfold OwnP; rw [marks_len]; exact HO.out, HG.out⟩
end Go.Proofs.YtnmnlbgialolhaaDoor

/- Contracts of single functions, and plain lemmas, on which the exact laws of this seat rest; each holds under the conditions that it states. -/
namespace Go.Proofs.YtnmnlbgialolhaaDoor
set_option linter.unusedVariables false
open Go.RowKit

/-- the held count -/
def Held (k n : Nat) (w : World) (e : Ending) (w' : World) : Prop := e = .returned (.int .i64 ((k + n : Nat) : Int)) ∧ Below w.heap.size w w'

theorem cell_kept {w w1 : World} {b o : Nat} {v : Value} (hb : Below w.heap.size w w1) (h : w.cell? ⟨b, o, none⟩ = some v) : w1.cell? ⟨b, o, none⟩ = some v := (hb.cell (p := ⟨b, o, none⟩) (blk_lt h)).trans h

set_option maxHeartbeats 1000000 in
set_option maxRecDepth 100000 in
theorem heldStringS_any (v : Value) (k n : Nat) (w : World) (h1 : 1 ≤ k) (h2 : k + n ≤ 9000000) (hv : Sl w v (marks k n)) :
    Calls Tryd.prog 47 #[v, .int .i64 k] w (Held k n w) := by
  rcases hv with ⟨ao, cap, rfl, h0⟩ | ⟨b, off, cap, rfl, hpos, hb, hc⟩
  · obtain rfl : n = 0 := by have := congrArg List.length h0; rwa [marks_len] at this
    go_enter Tryd.func47, Tryd.ntmps47
    go_wp2
    refine wp_loop_rounds 1 ?_; rw [rounds_succ]
    go_wp2
    go_ret
    exact ⟨rfl, Below.refl _ _⟩
  · rw [marks_len] at hpos hc ⊢
    have HC := Lib.hid hc
    clear hc
    go_enter Tryd.func47, Tryd.ntmps47
    go_wp2
    go_loopw [1, 5] (fun kv iv wr => ∃ i : Nat, i ≤ n ∧ kv = .int .i64 ((k : Int) + i) ∧ iv = .int .i64 i ∧ Below w.heap.size w wr) (fun _ iv _ => n - (intOf iv).toNat)
    case atStart => exact ⟨0, Nat.zero_le _, by simp, rfl, Below.refl _ _⟩
    case round =>
      obtain ⟨i, hi, rfl, rfl, hbel⟩ := hrel
      by_cases hlt : i < n
      · have hcell := (hbel.cell (p := ⟨b, off + i, none⟩) hb).trans (HC.out i hlt)
        have hm : (marks k n).getD i ByteArray.empty = mt (k + i) := by simp [marks, hlt]
        rw [hm] at hcell
        have HB := Lib.hid hbel
        have k0 : (0 : Int) ≤ (i : Int) := by omega
        have k1 : (i : Int) < (n : Int) := by omega
        have cm := fun W => markText_any (k + i) W (by omega) (by omega)
        rw [show ((k + i : Nat) : Int) = (k : Int) + i from by omega] at cm
        obtain ⟨s, hs⟩ : ∃ s, mt (k + i) = s := ⟨_, rfl⟩
        rw [hs] at hcell cm
        have CM := Lib.hid cm
        clear hbel hm hs cm
        go_wp2
        go_region_held3 (fun w' => w'.cell? ⟨b, off + i, none⟩ = some (.string s)) (first | go_keep | exact cell_kept (by assumption) (by assumption)) (first | (go_at_call 93; refine (CM.out _).mono ?_; rintro e w1 ⟨rfl, hb1⟩))
        have HB1 : Hid (Below w.heap.size w w1) := HB.out.drew.trans (hb1.mono HB.out.size)
        clear hb1
        go_wp2
        go_roundw
        case rel => exact ⟨i + 1, by omega, by go_num, by go_num, HB1.out⟩
        case measure => simp [intOf]; omega
      · obtain rfl : i = n := by omega
        have HB := Lib.hid hbel
        clear hbel
        go_wp2
        go_ret
        exact ⟨by simp, HB.out⟩

theorem markPicture_any (v : Value) (ss : List ByteArray) (base k : Nat) (w : World) (h1 : 1 ≤ k) (h2 : k + ss.length ≤ 9000000) (hv : OwnP w base v ss) :
    Calls Tryd.prog 15 #[.agg #[v], .int .i64 k] w (Marked w base v k ss.length) := by
  have hsl : v.ownBlock = none ∨ ∃ g, v.ownBlock = some g ∧ g < w.heap.size := by
    rcases h : v.ownBlock with _ | g
    · exact Or.inl rfl
    · exact Or.inr ⟨g, rfl, (hv.lt g h).2⟩
  obtain ⟨q, hq⟩ : ∃ q, v.ownBlock = q := ⟨_, rfl⟩
  have c := markStringS_any v ss base k (w.alloc (.cells #[v] 26)) h1 h2 (hv.below (Joins.below_alloc1 w _))
  have C := Lib.hid c
  have HQ := Lib.hid hq
  have HV := Lib.hid hv
  rw [hq] at hsl
  have HSL := Lib.hid hsl
  clear c hq hv hsl
  go_enter Tryd.func15, Tryd.ntmps15
  go_wp2_with fail
  refine C.out.mono ?_
  rintro e w' ⟨rfl, hown, hg⟩
  have HO := Lib.hid hown
  have HG := Lib.hid hg
  clear hown hg
  go_wp2_with fail
  go_ret
  refine ⟨rfl, HO.out, ?_⟩
  have hg := HG.out
  refine ⟨hg.os, hg.tape, hg.output, Nat.le_trans (by simp) hg.size, fun j hj hr => ?_⟩
  rw [hg.block j (by simp; omega) hr]
  exact Below.heap_alloc _ _ _ hj

theorem heldPicture_any (v : Value) (k n : Nat) (w : World) (h1 : 1 ≤ k) (h2 : k + n ≤ 9000000) (hv : Sl w v (marks k n)) :
    Calls Tryd.prog 16 #[.agg #[v], .int .i64 k] w (Held k n w) := by
  have C := Lib.hid (heldStringS_any v k n _ h1 h2 (hv.below (Joins.below_alloc1 w (.cells #[v] 26))))
  have hk : (0 : Int) ≤ ((k + n : Nat) : Int) := by omega
  obtain ⟨m, hm⟩ : ∃ m : Int, ((k + n : Nat) : Int) = m := ⟨_, rfl⟩
  unfold Held at C ⊢
  rw [hm] at C hk ⊢
  clear hm
  go_enter Tryd.func16, Tryd.ntmps16
  go_wp2_with fail
  refine C.out.mono ?_
  rintro e w' ⟨rfl, hb⟩
  have HB := Lib.hid hb
  clear hb
  go_wp2_with fail
  go_ret
  exact ⟨rfl, (Joins.below_alloc1 w _).trans (HB.out.mono (by simp))⟩
end Go.Proofs.YtnmnlbgialolhaaDoor
