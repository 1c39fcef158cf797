/- Contracts of single functions, and plain lemmas, on which the exact laws of this seat rest; each holds under the conditions that it states. -/
import Derived.Test.YtnmnlbgialolhaaDoorLib
import Derived.Laws.IdiomStrings
import Derived.Deep.RegionHeld3
import Derived.Laws.BitsAllLaws
namespace Go.Proofs.YtnmnlbgialolhaaDoor
set_option linter.unusedVariables false
open Go.RowKit

theorem str_ne {s t : ByteArray} (h : s ≠ t) : (s.toList == t.toList) = false := by
  rw [beq_eq_false_iff_ne, ByteArray.toList_eq, ByteArray.toList_eq]
  exact fun e => h (WideShapes.bytes_inj e)

def sameL (xs ys : List ByteArray) : Bool := decide (xs = ys)

theorem sameL_no {xs ys : List ByteArray} {k : Nat} (h : xs.getD k ByteArray.empty ≠ ys.getD k ByteArray.empty) : sameL xs ys = false := by
  unfold sameL
  rw [decide_eq_false_iff_not]
  intro e; exact h (by rw [e])

theorem sameL_yes {xs ys : List ByteArray} {n : Nat} (ha : xs.length = n) (hb : ys.length = n) (h : ∀ j, j < n → xs.getD j ByteArray.empty = ys.getD j ByteArray.empty) : sameL xs ys = true := by
  unfold sameL
  rw [decide_eq_true_iff]
  apply List.ext_getElem (by omega)
  intro i h1 h2
  have := h i (by omega)
  rwa [List.getD_eq_getElem?_getD, List.getD_eq_getElem?_getD, List.getElem?_eq_getElem h1, List.getElem?_eq_getElem h2] at this

/-- an ending that answers b, with no more than new blocks -/
def SaysB (b : Bool) (w : World) (e : Ending) (w' : World) : Prop := e = .returned (.bool b) ∧ Below w.heap.size w w'

set_option maxHeartbeats 1000000 in
theorem eqStringS_any (u v : Value) (xs ys : List ByteArray) (w : World) (hA : xs.length ≤ maxLen) (hB : ys.length ≤ maxLen) (hu : Sl w u xs) (hv : Sl w v ys) :
    Calls Tryd.prog 45 #[u, v] w (SaysB (sameL xs ys) w) := by
  unfold maxLen at hA hB
  have fu : ∃ ao cap, u = .slice ao xs.length cap := by
    rcases hu with ⟨ao, cap, rfl, rfl⟩ | ⟨b, off, cap, rfl, _⟩
    · exact ⟨_, _, rfl⟩
    · exact ⟨_, _, rfl⟩
  have fv : ∃ ao cap, v = .slice ao ys.length cap := by
    rcases hv with ⟨ao, cap, rfl, rfl⟩ | ⟨b, off, cap, rfl, _⟩
    · exact ⟨_, _, rfl⟩
    · exact ⟨_, _, rfl⟩
  by_cases hl : xs.length = ys.length
  · rcases hu with ⟨ao, cap, rfl, rfl⟩ | ⟨b, off, cap, rfl, hpos, hb, hc⟩
    · obtain rfl := List.length_eq_zero_iff.1 hl.symm
      obtain ⟨ao2, cap2, rfl⟩ := fv
      go_enter Tryd.func45, Tryd.ntmps45
      go_wp2
      refine wp_loop_rounds 1 ?_; rw [rounds_succ]
      go_wp2
      go_ret
      exact ⟨rfl, Below.refl _ _⟩
    · rcases hv with ⟨ao2, cap2, rfl, rfl⟩ | ⟨b2, off2, cap2, rfl, hpos2, hb2, hc2⟩
      · simp at hl; subst hl; simp at hpos
      · clear fu fv
        obtain ⟨n, hn⟩ : ∃ n, xs.length = n := ⟨_, rfl⟩
        have hn2 : ys.length = n := by omega
        rw [hn] at hc hpos ⊢
        rw [hn2] at hc2 ⊢
        have HN := Lib.hid hn
        have HN2 := Lib.hid hn2
        have HC := Lib.hid hc
        have HC2 := Lib.hid hc2
        have hN : n ≤ 2 ^ 63 - 1 := by omega
        clear hn hn2 hc hc2 hl hpos2 hA hB
        go_enter Tryd.func45, Tryd.ntmps45
        go_wp2
        go_loopw [5] (fun i wr => ∃ k : Nat, k ≤ n ∧ i = .int .i64 k ∧ Hid (∀ j, j < k → xs.getD j ByteArray.empty = ys.getD j ByteArray.empty) ∧ Below w.heap.size w wr) (fun i _ => n - (intOf i).toNat)
        case atStart => exact ⟨0, Nat.zero_le _, rfl, fun j h => by omega, Below.refl _ _⟩
        case round =>
          obtain ⟨k, hk, rfl, H, hbel⟩ := hrel
          by_cases hlt : k < n
          · have hcell := (hbel.cell (p := ⟨b, off + k, none⟩) hb).trans (HC.out k hlt)
            have hcell2 := (hbel.cell (p := ⟨b2, off2 + k, none⟩) hb2).trans (HC2.out k hlt)
            obtain ⟨s, hs⟩ : ∃ s, xs.getD k ByteArray.empty = s := ⟨_, rfl⟩
            obtain ⟨s2, hs2⟩ : ∃ s, ys.getD k ByteArray.empty = s := ⟨_, rfl⟩
            rw [hs] at hcell
            rw [hs2] at hcell2
            have Hs := Lib.hid hs
            have Hs2 := Lib.hid hs2
            have HB := Lib.hid hbel
            clear hs hs2 hbel
            have k0 : (0 : Int) ≤ (k : Int) := by omega
            have k1 : (k : Int) < (n : Int) := by omega
            by_cases he : s = s2
            · subst he
              go_wp2
              go_quiet (fail)
              go_wp2
              go_roundw
              case rel => exact ⟨k + 1, by omega, by go_num, fun j hj => by
                by_cases e : j = k
                · subst e; rw [Hs.out, Hs2.out]
                · exact H.out j (by omega), HB.out.trans (Joins.below_draws _ _ _)⟩
              case measure => simp [intOf]; omega
            · have he2 : (s.toList == s2.toList) = false := str_ne he
              have hno := Lib.hid (sameL_no (xs := xs) (ys := ys) (k := k) (by rw [Hs.out, Hs2.out]; exact he))
              clear he
              go_wp2
              go_quiet (fail)
              go_wp2
              go_ret
              exact ⟨ret_bool (a := false) hno.out.symm, HB.out.trans (Joins.below_draws _ _ _)⟩
          · obtain rfl : k = n := by omega
            have hyes := Lib.hid (sameL_yes HN.out HN2.out H.out)
            have HB := Lib.hid hbel
            clear hbel
            go_wp2
            go_ret
            exact ⟨ret_bool (a := true) hyes.out.symm, HB.out⟩
  · have hno : sameL xs ys = false := by
      unfold sameL; rw [decide_eq_false_iff_not]; intro e; exact hl (by rw [e])
    have HNo := Lib.hid hno
    obtain ⟨ao, cap, rfl⟩ := fu
    obtain ⟨ao2, cap2, rfl⟩ := fv
    have hl2 : ((xs.length : Int) == (ys.length : Int)) = false := by simp; omega
    clear hno hu hv
    go_enter Tryd.func45, Tryd.ntmps45
    go_wp2
    go_ret
    exact ⟨ret_bool (a := false) HNo.out.symm, Below.refl _ _⟩

theorem eqPicture_any (u v : Value) (xs ys : List ByteArray) (w : World) (hA : xs.length ≤ maxLen) (hB : ys.length ≤ maxLen) (hu : Sl w u xs) (hv : Sl w v ys) :
    Calls Tryd.prog 14 #[.agg #[u], .agg #[v]] w (SaysB (sameL xs ys) w) := by
  obtain ⟨r, hr⟩ : ∃ r, sameL xs ys = r := ⟨_, rfl⟩
  have c := fun w' (hb : Below w.heap.size w w') => eqStringS_any u v xs ys w' hA hB (hu.below hb) (hv.below hb)
  rw [hr] at c ⊢
  have C := Lib.hid c
  clear c hr
  cases r
  all_goals
    go_enter Tryd.func14, Tryd.ntmps14
    go_wp2_with fail
    refine (C.out _ (Joins.below_alloc2 w _ _)).mono ?_
    rintro e w' ⟨rfl, hb⟩
    have HB := Lib.hid hb
    clear hb
    go_wp2_with fail
    go_ret
    exact ⟨rfl, (Joins.below_alloc2 w _ _).trans (HB.out.mono (by simp; omega))⟩
end Go.Proofs.YtnmnlbgialolhaaDoor

/- Contracts of single functions, and plain lemmas, on which the exact laws of this seat rest; each holds under the conditions that it states. -/
namespace Go.Proofs.YtnmnlbgialolhaaDoor
set_option linter.unusedVariables false
open Go.RowKit

theorem digs_step (j : Nat) (h : 0 < j) (l : List UInt8) : digs j ++ l = digs (j / 10) ++ (UInt8.ofNat (48 + j % 10) :: l) := by
  conv => lhs; unfold digs
  rw [dif_neg (by omega)]
  simp

theorem digs_zero : digs 0 = [] := by unfold digs; simp
theorem bpush (c : UInt8) (l : List UInt8) : (⟨#[c]⟩ : ByteArray) ++ ⟨l.toArray⟩ = ⟨(c :: l).toArray⟩ := by
  rw [ByteArray.mk_append_mk]; simp

theorem conv_one (w : World) (j : Nat) : (convert 50 9 (.slice (some ⟨w.heap.size, 0, none⟩) 1 1)).run Tryd.prog (w.alloc (.cells #[.int .u8 (48 + (j : Int) % 10)] 5)) = .ok (.string ⟨[UInt8.ofNat (48 + j % 10)].toArray⟩) (w.alloc (.cells #[.int .u8 (48 + (j : Int) % 10)] 5)) := by
  have e : ((UInt8.ofNat (48 + j % 10)).toNat : Int) = 48 + (j : Int) % 10 := by
    rw [UInt8.toNat_ofNat_of_lt' (by have := Nat.mod_lt j (show 0 < 10 by omega); show _ < 256; omega)]
    omega
  exact run_convert_bytes_back (P := Tryd.prog) (w.alloc (.cells #[.int .u8 (48 + (j : Int) % 10)] 5)) 50 9 5 ⟨w.heap.size, 0, none⟩ 1 [UInt8.ofNat (48 + j % 10)] Tryd.underlying50 Tryd.underlying5 Tryd.underlying9
    (fun i hi => by
      obtain rfl : i = 0 := by simpa using hi
      rw [List.getElem_cons_zero, e]
      simp [Addr.add])

set_option maxHeartbeats 400000 in
set_option maxRecDepth 100000 in
theorem markText_any (k : Nat) (w : World) (h1 : 1 ≤ k) (h2 : k ≤ 9000000) :
    Calls Tryd.prog 93 #[.int .i64 k] w fun e w' => e = .returned (.string (mt k)) ∧ Below w.heap.size w w' := by
  have hmt : mt k = ⟨(109 :: digs k).toArray⟩ := by unfold mt; rw [if_neg (by omega)]
  have HM := Lib.hid hmt
  clear hmt
  go_enter Tryd.func93, Tryd.ntmps93
  go_wp2
  go_loopw [0, 3] (fun kv o wr => ∃ (j : Nat) (l : List UInt8), j ≤ k ∧ kv = .int .i64 j ∧ o = .string ⟨l.toArray⟩ ∧ Hid (digs j ++ l = digs k) ∧ l.length + j ≤ k ∧ Below w.heap.size w wr) (fun kv _ _ => (intOf kv).toNat)
  case atStart => exact ⟨k, [], Nat.le_refl _, rfl, rfl, by show digs k ++ [] = digs k; simp, by simp, Below.refl _ _⟩
  case round =>
    obtain ⟨j, l, hj, rfl, rfl, H, hl, hbel⟩ := hrel
    by_cases hp : 0 < j
    · have hcv := conv_one wr j
      have hs := digs_step j hp l
      have HS := Lib.hid hs
      have HB := Lib.hid hbel
      clear hs hbel
      go_wp2
      go_roundw
      case rel => exact ⟨j / 10, UInt8.ofNat (48 + j % 10) :: l, by omega, by go_num, by rw [UInt8.ofNat_add]; exact congrArg Value.string (bpush _ _), by show _ = _; rw [← HS.out]; exact H.out, by simp; omega, HB.out.alloc HB.out.size _⟩
      case measure => simp [intOf]; omega
    · obtain rfl : j = 0 := by omega
      have hd : l = digs k := by have := H.out; rwa [digs_zero, List.nil_append] at this
      have HB := Lib.hid hbel
      have HD := Lib.hid hd
      clear hbel hd
      go_wp2
      go_ret
      exact ⟨by rw [HM.out, ← HD.out]; exact congrArg (fun x => Ending.returned (Value.string x)) (bpush _ _), HB.out⟩
end Go.Proofs.YtnmnlbgialolhaaDoor

/- Contracts of single functions, and plain lemmas, on which the exact laws of this seat rest; each holds under the conditions that it states. -/
namespace Go.Proofs.YtnmnlbgialolhaaDoor
set_option linter.unusedVariables false
open Go.RowKit

theorem grown_below {w a b : World} {row : Option Nat} (h : w.grownBy a row) (hb : Below a.heap.size a b) : w.grownBy b row :=
  ⟨hb.os.trans h.os, hb.tape.trans h.tape, hb.output.trans h.output, Nat.le_trans h.size hb.size, fun k hk hr => (hb.block k (Nat.lt_of_lt_of_le hk h.size)).trans (h.block k hk hr)⟩
theorem grown_setCell {w a : World} {g o : Nat} (h : w.grownBy a (some g)) (u : Value) : w.grownBy (a.setCell ⟨g, o, none⟩ u) (some g) :=
  ⟨h.os, h.tape, h.output, Nat.le_trans h.size (by simp [World.setCell]), fun k hk hr => (Below.heap_setCell a ⟨g, o, none⟩ u k (fun e => hr (by rw [e]))).trans (h.block k hk hr)⟩
theorem grown_refl (w : World) (row : Option Nat) : w.grownBy w row := ⟨rfl, rfl, rfl, Nat.le_refl _, fun _ _ _ => rfl⟩
/-- What a row of the call's own shows, behind writes to it alone. -/
theorem Below.grown_own {W w w' : World} {row : Option Nat} {B : Nat} (h : Below B W w) (hg : w.grownBy w' row) (hB : B ≤ w.heap.size) (hr : ∀ k, row = some k → B ≤ k) : Below B W w' := h.grown hg hB hr

theorem set_map_range {α : Type} (f : Nat → α) (n k : Nat) (x : α) : ((List.range n).map f).set k x = (List.range n).map (fun j => if j = k then x else f j) := by
  apply List.ext_getElem?
  intro i
  rw [List.getElem?_set]
  by_cases hi : k = i
  · subst hi
    by_cases hn : k < n <;> simp [hn]
  · have : ¬ i = k := fun e => hi e.symm
    by_cases hn : i < n <;> simp [hi, hn, this]

def marks (k n : Nat) : List ByteArray := (List.range n).map fun i => mt (k + i)
theorem marks_len (k n : Nat) : (marks k n).length = n := by simp [marks]
/-- i of n marks are laid over ss -/
def part (ss : List ByteArray) (k n i : Nat) : List Value := (List.range n).map fun j => if j < i then Value.string (mt (k + j)) else Value.string (ss.getD j ByteArray.empty)
theorem part_zero (ss : List ByteArray) (k : Nat) : part ss k ss.length 0 = ss.map Value.string := by
  unfold part
  simp only [Nat.not_lt_zero, if_false]
  exact range_getD ss
theorem part_full (ss : List ByteArray) (k n : Nat) : part ss k n n = (marks k n).map Value.string := by
  unfold part marks
  rw [List.map_map]
  apply List.map_congr_left
  intro j hj
  simp at hj
  simp [hj]
theorem part_set (ss : List ByteArray) (k n i : Nat) : (part ss k n i).set i (.string (mt (k + i))) = part ss k n (i + 1) := by
  unfold part
  rw [set_map_range]
  apply List.map_congr_left
  intro j hj
  by_cases h1 : j = i
  · subst h1; simp
  · by_cases h2 : j < i
    · simp [h1, h2, show j < i + 1 from by omega]
    · simp [h1, h2, show ¬ j < i + 1 from by omega]
theorem part_at (ss : List ByteArray) (k n i : Nat) (h : i < n) : (part ss k n i)[i]? = some (.string (ss.getD i ByteArray.empty)) := by
  unfold part
  simp [h]

/-- strings laid into a row of the call's own -/
def Marked (w : World) (base : Nat) (v : Value) (k n : Nat) (e : Ending) (w' : World) : Prop := e = .returned (.int .i64 ((k + n : Nat) : Int)) ∧ OwnP w' base v (marks k n) ∧ w.grownBy w' v.ownBlock

set_option maxHeartbeats 1000000 in
set_option maxRecDepth 100000 in
theorem markStringS_any (v : Value) (ss : List ByteArray) (base k : Nat) (w : World) (h1 : 1 ≤ k) (h2 : k + ss.length ≤ 9000000) (hv : OwnP w base v ss) :
    Calls Tryd.prog 46 #[v, .int .i64 k] w (Marked w base v k ss.length) := by
  rcases Joins.ownsRow_forms hv with ⟨rfl, h0⟩ | ⟨g, cap, rfl⟩
  · have h0' := List.length_eq_zero_iff.1 h0
    subst h0'
    go_enter Tryd.func46, Tryd.ntmps46
    go_wp2
    refine wp_loop_rounds 1 ?_; rw [rounds_succ]
    go_wp2
    go_ret
    exact ⟨rfl, hv, grown_refl _ _⟩
  · obtain ⟨n, hn⟩ : ∃ n, ss.length = n := ⟨_, rfl⟩
    have hv' : w.ownsRow base 9 1 (.slice (some ⟨g, 0, none⟩) n cap) n (part ss k n 0) := by
      rw [← hn, part_zero]; exact hv
    rw [hn] at h2 ⊢
    have hg := (hv.lt g rfl).2
    clear hv hn
    go_enter Tryd.func46, Tryd.ntmps46
    go_wp2
    go_loopw [1, 5] (fun kv iv wr => ∃ i : Nat, i ≤ n ∧ kv = .int .i64 ((k : Int) + i) ∧ iv = .int .i64 i ∧ wr.ownsRow base 9 1 (.slice (some ⟨g, 0, none⟩) n cap) n (part ss k n i) ∧ w.grownBy wr (some g)) (fun _ iv _ => n - (intOf iv).toNat)
    case atStart => exact ⟨0, Nat.zero_le _, by simp, rfl, hv', grown_refl _ _⟩
    case round =>
      obtain ⟨i, hi, rfl, rfl, hown, hgr⟩ := hrel
      by_cases hlt : i < n
      · have HO := Lib.hid hown
        have HG := Lib.hid hgr
        have HV := Lib.hid hv'
        clear hown hgr hv'
        go_wp2_with fail
        rw [show ((k : Int) + (i : Int)) = ((k + i : Nat) : Int) from by omega]
        refine (markText_any (k + i) _ (by omega) (by omega)).mono ?_
        rintro e w1 ⟨rfl, hb⟩
        have hown1 : w1.ownsRow base 9 1 (.slice (some ⟨g, 0, none⟩) n cap) n (part ss k n i) := HO.out.kept (w' := w1) (row := none) ⟨hb.os, hb.tape, hb.output, hb.size, fun k hk _ => hb.block k hk⟩ (by simp [Value.ownBlock])
        have hfz := hown1.frozenAt i
        have hold := (hown1.cellAt i (by omega)).trans (part_at ss k n i hlt)
        have hst := (hown1.stored i (.string (mt (k + i)))).1
        rw [part_set] at hst
        have HS := Lib.hid hst
        have HG1 := Lib.hid (grown_setCell (o := i) (grown_below HG.out hb) (.string (mt (k + i))))
        obtain ⟨s, hs⟩ : ∃ s, mt (k + i) = s := ⟨_, rfl⟩
        rw [hs] at HS HG1 ⊢
        clear hst hown1 hb hs
        go_wp2
        go_roundw
        case rel => exact ⟨i + 1, by omega, by go_num, by go_num, HS.out, HG1.out⟩
        case measure => simp [intOf]; omega
      · obtain rfl : i = n := by omega
        rw [part_full] at hown
        have HO := Lib.hid hown
        have HG := Lib.hid hgr
        clear hown hgr hv'
        go_wp2
        go_ret
        exact ⟨by simp, by unfold OwnP; rw [marks_len]; exact HO.out, HG.out⟩
end Go.Proofs.YtnmnlbgialolhaaDoor

/- Contracts of single functions, and plain lemmas, on which the exact laws of this seat rest; each holds under the conditions that it states. -/
namespace Go.Proofs.YtnmnlbgialolhaaDoor
set_option linter.unusedVariables false
open Go.RowKit

/-- the held count -/
def Held (k n : Nat) (w : World) (e : Ending) (w' : World) : Prop := e = .returned (.int .i64 ((k + n : Nat) : Int)) ∧ Below w.heap.size w w'

theorem cell_kept {w w1 : World} {b o : Nat} {v : Value} (hb : Below w.heap.size w w1) (h : w.cell? ⟨b, o, none⟩ = some v) : w1.cell? ⟨b, o, none⟩ = some v := (hb.cell (p := ⟨b, o, none⟩) (blk_lt h)).trans h

set_option maxHeartbeats 1000000 in
set_option maxRecDepth 100000 in
theorem heldStringS_any (v : Value) (k n : Nat) (w : World) (h1 : 1 ≤ k) (h2 : k + n ≤ 9000000) (hv : Sl w v (marks k n)) :
    Calls Tryd.prog 47 #[v, .int .i64 k] w (Held k n w) := by
  rcases hv with ⟨ao, cap, rfl, h0⟩ | ⟨b, off, cap, rfl, hpos, hb, hc⟩
  · obtain rfl : n = 0 := by have := congrArg List.length h0; rwa [marks_len] at this
    go_enter Tryd.func47, Tryd.ntmps47
    go_wp2
    refine wp_loop_rounds 1 ?_; rw [rounds_succ]
    go_wp2
    go_ret
    exact ⟨rfl, Below.refl _ _⟩
  · rw [marks_len] at hpos hc ⊢
    have HC := Lib.hid hc
    clear hc
    go_enter Tryd.func47, Tryd.ntmps47
    go_wp2
    go_loopw [1, 5] (fun kv iv wr => ∃ i : Nat, i ≤ n ∧ kv = .int .i64 ((k : Int) + i) ∧ iv = .int .i64 i ∧ Below w.heap.size w wr) (fun _ iv _ => n - (intOf iv).toNat)
    case atStart => exact ⟨0, Nat.zero_le _, by simp, rfl, Below.refl _ _⟩
    case round =>
      obtain ⟨i, hi, rfl, rfl, hbel⟩ := hrel
      by_cases hlt : i < n
      · have hcell := (hbel.cell (p := ⟨b, off + i, none⟩) hb).trans (HC.out i hlt)
        have hm : (marks k n).getD i ByteArray.empty = mt (k + i) := by simp [marks, hlt]
        rw [hm] at hcell
        have HB := Lib.hid hbel
        have k0 : (0 : Int) ≤ (i : Int) := by omega
        have k1 : (i : Int) < (n : Int) := by omega
        have cm := fun W => markText_any (k + i) W (by omega) (by omega)
        rw [show ((k + i : Nat) : Int) = (k : Int) + i from by omega] at cm
        obtain ⟨s, hs⟩ : ∃ s, mt (k + i) = s := ⟨_, rfl⟩
        rw [hs] at hcell cm
        have CM := Lib.hid cm
        clear hbel hm hs cm
        go_wp2
        go_region_held3 (fun w' => w'.cell? ⟨b, off + i, none⟩ = some (.string s)) (first | go_keep | exact cell_kept (by assumption) (by assumption)) (first | (go_at_call 93; refine (CM.out _).mono ?_; rintro e w1 ⟨rfl, hb1⟩))
        have HB1 : Hid (Below w.heap.size w w1) := HB.out.drew.trans (hb1.mono HB.out.size)
        clear hb1
        go_wp2
        go_roundw
        case rel => exact ⟨i + 1, by omega, by go_num, by go_num, HB1.out⟩
        case measure => simp [intOf]; omega
      · obtain rfl : i = n := by omega
        have HB := Lib.hid hbel
        clear hbel
        go_wp2
        go_ret
        exact ⟨by simp, HB.out⟩

theorem markPicture_any (v : Value) (ss : List ByteArray) (base k : Nat) (w : World) (h1 : 1 ≤ k) (h2 : k + ss.length ≤ 9000000) (hv : OwnP w base v ss) :
    Calls Tryd.prog 15 #[.agg #[v], .int .i64 k] w (Marked w base v k ss.length) := by
  have hsl : v.ownBlock = none ∨ ∃ g, v.ownBlock = some g ∧ g < w.heap.size := by
    rcases h : v.ownBlock with _ | g
    · exact Or.inl rfl
    · exact Or.inr ⟨g, rfl, (hv.lt g h).2⟩
  obtain ⟨q, hq⟩ : ∃ q, v.ownBlock = q := ⟨_, rfl⟩
  have c := markStringS_any v ss base k (w.alloc (.cells #[v] 26)) h1 h2 (hv.below (Joins.below_alloc1 w _))
  have C := Lib.hid c
  have HQ := Lib.hid hq
  have HV := Lib.hid hv
  rw [hq] at hsl
  have HSL := Lib.hid hsl
  clear c hq hv hsl
  go_enter Tryd.func15, Tryd.ntmps15
  go_wp2_with fail
  refine C.out.mono ?_
  rintro e w' ⟨rfl, hown, hg⟩
  have HO := Lib.hid hown
  have HG := Lib.hid hg
  clear hown hg
  go_wp2_with fail
  go_ret
  refine ⟨rfl, HO.out, ?_⟩
  have hg := HG.out
  refine ⟨hg.os, hg.tape, hg.output, Nat.le_trans (by simp) hg.size, fun j hj hr => ?_⟩
  rw [hg.block j (by simp; omega) hr]
  exact Below.heap_alloc _ _ _ hj

theorem heldPicture_any (v : Value) (k n : Nat) (w : World) (h1 : 1 ≤ k) (h2 : k + n ≤ 9000000) (hv : Sl w v (marks k n)) :
    Calls Tryd.prog 16 #[.agg #[v], .int .i64 k] w (Held k n w) := by
  have C := Lib.hid (heldStringS_any v k n _ h1 h2 (hv.below (Joins.below_alloc1 w (.cells #[v] 26))))
  have hk : (0 : Int) ≤ ((k + n : Nat) : Int) := by omega
  obtain ⟨m, hm⟩ : ∃ m : Int, ((k + n : Nat) : Int) = m := ⟨_, rfl⟩
  unfold Held at C ⊢
  rw [hm] at C hk ⊢
  clear hm
  go_enter Tryd.func16, Tryd.ntmps16
  go_wp2_with fail
  refine C.out.mono ?_
  rintro e w' ⟨rfl, hb⟩
  have HB := Lib.hid hb
  clear hb
  go_wp2_with fail
  go_ret
  exact ⟨rfl, (Joins.below_alloc1 w _).trans (HB.out.mono (by simp))⟩
end Go.Proofs.YtnmnlbgialolhaaDoor

/- Contracts of single functions, and plain lemmas, on which the exact laws of this seat rest; each holds under the conditions that it states. -/
namespace Go.Proofs.YtnmnlbgialolhaaDoor
set_option linter.unusedVariables false
open Go.RowKit

/-- between two numbers -/
def inB (n a b : Int) : Bool := decide (a ≤ n) && decide (n ≤ b)
theorem inB_yes {n a b : Int} (h1 : a ≤ n) (h2 : n ≤ b) : inB n a b = true := by simp [inB, h1, h2]
theorem inB_no {n a b : Int} (h : n < a ∨ b < n) : inB n a b = false := by simp [inB]; omega

set_option maxHeartbeats 400000 in
theorem l00In_any (n a b : Int) (w : World) : Calls Tryd.prog 77 #[.int .i64 n, .int .i64 a, .int .i64 b] w fun e w' => e = .returned (.bool (inB n a b)) ∧ w = w' := by
  by_cases h1 : a ≤ n
  · have e2 : Hid (inB n a b = decide (n ≤ b)) := by
      show inB n a b = _
      simp [inB, h1]
    go_enter Tryd.func77, Tryd.ntmps77
    go_wp2
    go_ret
    exact ⟨ret_bool e2.out.symm, rfl⟩
  · have e2 : Hid (inB n a b = false) := by
      show inB n a b = _
      simp [inB, h1]
    go_enter Tryd.func77, Tryd.ntmps77
    go_wp2
    go_ret
    exact ⟨ret_bool (a := false) e2.out.symm, rfl⟩

theorem l01Side_any (n : Int) (w : World) : Calls Tryd.prog 85 #[.int .i64 n] w fun e w' => e = .returned (.bool (inB n 1 16)) ∧ w = w' := by
  go_enter Tryd.func85, Tryd.ntmps85
  go_wp2_with fail
  refine (l00In_any _ _ _ _).mono ?_
  rintro e w' ⟨rfl, rfl⟩
  go_wp2_with fail
  go_ret
  exact ⟨rfl, rfl⟩

/-- A row of a valid picture. -/
def pixB (c : UInt8) : Bool := c == 35 || c == 46
def rowB (wd : Nat) (s : ByteArray) : Bool := decide (s.size = wd) && s.data.toList.all pixB
def row0 (ss : List ByteArray) : ByteArray := ss.getD 0 ByteArray.empty
def validB (ss : List ByteArray) : Bool := decide (1 ≤ ss.length) && decide (ss.length ≤ 16) && decide (1 ≤ (row0 ss).size) && decide ((row0 ss).size ≤ 16) && ss.all (rowB (row0 ss).size)

theorem pix_all {s : ByteArray} (h : ∀ (j : Nat) (hj : j < s.size), pixB (s[j]'hj) = true) : s.data.toList.all pixB = true := by
  rw [List.all_eq_true]
  intro c hc
  obtain ⟨k, hk, rfl⟩ := List.getElem_of_mem hc
  exact h k (by simpa using hk)
theorem pix_some {s : ByteArray} {k : Nat} (hk : k < s.size) (h : pixB (s[k]'hk) = false) : s.data.toList.all pixB = false := by
  rw [List.all_eq_false]
  exact ⟨s[k], Array.mem_toList_iff.2 (Array.getElem_mem _), by simp [h]⟩
theorem valid_no_len {ss : List ByteArray} (h : ss.length < 1 ∨ 16 < ss.length) : validB ss = false := by
  unfold validB
  rcases h with h | h
  · simp [show ¬ 1 ≤ ss.length from by omega]
  · simp [show ¬ ss.length ≤ 16 from by omega]
theorem valid_no_wd {ss : List ByteArray} (h : (row0 ss).size < 1 ∨ 16 < (row0 ss).size) : validB ss = false := by
  unfold validB
  rcases h with h | h
  · simp [show ¬ 1 ≤ (row0 ss).size from by omega]
  · simp [show ¬ (row0 ss).size ≤ 16 from by omega]
theorem valid_no_row {ss : List ByteArray} {k : Nat} (hk : k < ss.length) (h : rowB (row0 ss).size (ss.getD k ByteArray.empty) = false) : validB ss = false := by
  unfold validB
  have : ss.all (rowB (row0 ss).size) = false := by
    rw [List.all_eq_false]
    refine ⟨ss[k], List.getElem_mem _, ?_⟩
    rw [List.getD_eq_getElem?_getD, List.getElem?_eq_getElem hk] at h
    simpa using h
  simp [this]
theorem valid_yes {ss : List ByteArray} (h1 : 1 ≤ ss.length) (h2 : ss.length ≤ 16) (h3 : 1 ≤ (row0 ss).size) (h4 : (row0 ss).size ≤ 16) (h : ∀ j, j < ss.length → rowB (row0 ss).size (ss.getD j ByteArray.empty) = true) : validB ss = true := by
  unfold validB
  have : ss.all (rowB (row0 ss).size) = true := by
    rw [List.all_eq_true]
    intro s hs
    obtain ⟨k, hk, rfl⟩ := List.getElem_of_mem hs
    have := h k hk
    rwa [List.getD_eq_getElem?_getD, List.getElem?_eq_getElem hk] at this
  simp [h1, h2, h3, h4, this]

set_option maxHeartbeats 2000000 in
set_option maxRecDepth 100000 in
theorem l01Is_any (pb po : Nat) (v : Value) (ss : List ByteArray) (w : World) (hp : w.cell? ⟨pb, po, none⟩ = some v) (hv : Sl w v ss) (hN : ss.length ≤ maxLen) (hz : ∀ s ∈ ss, s.size ≤ maxLen) :
    Calls Tryd.prog 37 #[.pointer (some ⟨pb, po, none⟩)] w (SaysB (validB ss) w) := by
  unfold maxLen at hN hz
  have fv : ∃ ao cap, v = .slice ao ss.length cap := by
    rcases hv with ⟨ao, cap, rfl, rfl⟩ | ⟨b, off, cap, rfl, _⟩
    · exact ⟨_, _, rfl⟩
    · exact ⟨_, _, rfl⟩
  by_cases hl : ss.length < 1 ∨ 16 < ss.length
  · have hno := Lib.hid (valid_no_len hl)
    have hin := Lib.hid (inB_no (n := ss.length) (a := 1) (b := 16) (by omega))
    obtain ⟨ao, cap, rfl⟩ := fv
    clear hv
    go_enter Tryd.func37, Tryd.ntmps37
    go_wp2_with fail
    refine (l01Side_any _ _).mono ?_
    rintro e w' ⟨rfl, rfl⟩
    rw [hin.out]
    go_wp2_with fail
    go_ret
    exact ⟨ret_bool (a := false) hno.out.symm, Below.refl _ _⟩
  · rcases hv with ⟨ao, cap, rfl, rfl⟩ | ⟨b, off, cap, rfl, hpos, hb, hc⟩
    · simp at hl
    · clear fv
      have hin := Lib.hid (inB_yes (n := ss.length) (a := 1) (b := 16) (by omega) (by omega))
      have hc0 := hc 0 hpos
      have hr0 : ss.getD 0 ByteArray.empty = row0 ss := rfl
      rw [Nat.add_zero, hr0] at hc0
      have hs0 : (row0 ss).size ≤ 2 ^ 63 - 1 := by
        refine hz _ ?_
        unfold row0
        rw [List.getD_eq_getElem?_getD, List.getElem?_eq_getElem hpos]
        exact List.getElem_mem _
      clear hr0
      by_cases hw : (row0 ss).size < 1 ∨ 16 < (row0 ss).size
      · have hno := Lib.hid (valid_no_wd hw)
        have hin2 := Lib.hid (inB_no (n := (row0 ss).size) (a := 1) (b := 16) (by omega))
        obtain ⟨s0, hs⟩ : ∃ s, row0 ss = s := ⟨_, rfl⟩
        rw [hs] at hin2 hc0 hs0
        clear hs hc hw
        go_enter Tryd.func37, Tryd.ntmps37
        go_wp2_with fail
        refine (l01Side_any _ _).mono ?_
        rintro e w' ⟨rfl, rfl⟩
        rw [hin.out]
        go_wp2_with fail
        refine (l01Side_any _ _).mono ?_
        rintro e w' ⟨rfl, rfl⟩
        rw [hin2.out]
        go_wp2_with fail
        go_ret
        exact ⟨ret_bool (a := false) hno.out.symm, Below.refl _ _⟩
      · have hin2 := Lib.hid (inB_yes (n := (row0 ss).size) (a := 1) (b := 16) (by omega) (by omega))
        obtain ⟨n, hn⟩ : ∃ n, ss.length = n := ⟨_, rfl⟩
        obtain ⟨s0, hs⟩ : ∃ s, row0 ss = s := ⟨_, rfl⟩
        have VY := Lib.hid (valid_yes (ss := ss) (by omega) (by omega) (by omega) (by omega))
        have VN := Lib.hid (fun k hk => valid_no_row (ss := ss) (k := k) hk)
        rw [hs] at hin2 hc0 hs0 VY VN hw
        rw [hn] at hin VY hc hpos hl VN hp
        have HC := Lib.hid hc
        have hpb := blk_lt hp
        clear hs hc hn hN hz
        go_enter Tryd.func37, Tryd.ntmps37
        go_wp2_with fail
        refine (l01Side_any _ _).mono ?_
        rintro e w' ⟨rfl, rfl⟩
        rw [hin.out]
        go_wp2_with fail
        refine (l01Side_any _ _).mono ?_
        rintro e w' ⟨rfl, rfl⟩
        rw [hin2.out]
        go_wp2_with fail
        go_loopw [3] (fun yv wr => ∃ y : Nat, y ≤ n ∧ yv = .int .i64 y ∧ Hid (∀ j, j < y → rowB s0.size (ss.getD j ByteArray.empty) = true) ∧ Below w.heap.size w wr) (fun yv _ => n - (intOf yv).toNat)
        case atStart => exact ⟨0, Nat.zero_le _, rfl, fun j h => by omega, Below.refl _ _⟩
        case round =>
          obtain ⟨y, hy, rfl, H, hbel⟩ := hrel
          obtain ⟨wo, rfl⟩ : ∃ wo : World, wo = wr := ⟨_, rfl⟩
          have hp' := (hbel.cell (p := ⟨pb, po, none⟩) hpb).trans hp
          have hc0' := (hbel.cell (p := ⟨b, off, none⟩) hb).trans hc0
          by_cases hlt : y < n
          · have hcell := (hbel.cell (p := ⟨b, off + y, none⟩) hb).trans (HC.out y hlt)
            obtain ⟨s, hs⟩ : ∃ s, ss.getD y ByteArray.empty = s := ⟨_, rfl⟩
            have vn := VN.out y hlt
            rw [hs] at hcell vn
            have VN' := Lib.hid vn
            have Hs := Lib.hid hs
            have HB := Lib.hid hbel
            clear hs hbel vn
            have k0 : (0 : Int) ≤ (y : Int) := by omega
            have k1 : (y : Int) < (n : Int) := by omega
            have k2 : (0 : Int) < (n : Int) := by omega
            by_cases he : s.size = s0.size
            · have he2 : ((s.size : Int) == (s0.size : Int)) = true := by simp [he]
              have He := Lib.hid he
              clear he
              have hss : s.size ≤ 2 ^ 63 - 1 := by rw [He.out]; exact hs0
              go_wp2
              go_quiet (fail)
              go_wp2
              go_loopw [4] (fun xv wr => ∃ x : Nat, x ≤ s.size ∧ xv = .int .i64 x ∧ Hid (∀ (j : Nat) (hj : j < s.size), j < x → pixB (s[j]'hj) = true) ∧ Below wo.heap.size wo wr) (fun xv _ => s.size - (intOf xv).toNat)
              case atStart => exact ⟨0, Nat.zero_le _, rfl, fun j _ h => by omega, Joins.below_draws _ _ _⟩
              case round =>
                obtain ⟨x, hx, rfl, HX, hbx⟩ := hrel
                have hp2 := cell_kept hbx hp'
                have hcell2 := cell_kept hbx hcell
                have HBX := Lib.hid hbx
                clear hbx
                have j0 : (0 : Int) ≤ (x : Int) := by omega
                by_cases hxs : x < s.size
                · by_cases hpx : pixB (s[x]'hxs) = true
                  · rcases (show (s[x]'hxs).toNat = 35 ∨ (s[x]'hxs).toNat = 46 from by
                      unfold pixB at hpx
                      rcases Bool.or_eq_true_iff.1 hpx with h | h
                      · exact Or.inl (by rw [beq_iff_eq.1 h]; rfl)
                      · exact Or.inr (by rw [beq_iff_eq.1 h]; rfl)) with h35 | h46
                    · have b1 : (((s[x]'hxs).toNat : Int) != 35) = false := by simp [h35]
                      have HP := Lib.hid hpx
                      clear h35 hpx
                      go_wp2
                      go_roundw
                      case rel => exact ⟨x + 1, by omega, by go_num, fun j hj hjx => by
                        by_cases e : j = x
                        · subst e; exact HP.out
                        · exact HX.out j hj (by omega), HBX.out⟩
                      case measure => simp [intOf]; omega
                    · have b1 : (((s[x]'hxs).toNat : Int) != 35) = true := by simp [h46]
                      have b2 : (((s[x]'hxs).toNat : Int) != 46) = false := by simp [h46]
                      have HP := Lib.hid hpx
                      clear h46 hpx
                      go_wp2
                      go_roundw
                      case rel => exact ⟨x + 1, by omega, by go_num, fun j hj hjx => by
                        by_cases e : j = x
                        · subst e; exact HP.out
                        · exact HX.out j hj (by omega), HBX.out⟩
                      case measure => simp [intOf]; omega
                  · have hpf : pixB (s[x]'hxs) = false := by simpa using hpx
                    have hno := VN'.out (by unfold rowB; rw [pix_some hxs hpf]; simp)
                    have HNo := Lib.hid hno
                    have b1 : (((s[x]'hxs).toNat : Int) != 35) = true := by
                      rw [bne_iff_ne]; intro h
                      have : s[x] = 35 := UInt8.toNat_inj.1 (by show _ = (_ : Nat); exact Int.ofNat_inj.1 h)
                      simp [pixB, this] at hpf
                    have b2 : (((s[x]'hxs).toNat : Int) != 46) = true := by
                      rw [bne_iff_ne]; intro h
                      have : s[x] = 46 := UInt8.toNat_inj.1 (by show _ = (_ : Nat); exact Int.ofNat_inj.1 h)
                      simp [pixB, this] at hpf
                    clear hpf hpx hno
                    go_wp2
                    go_ret
                    exact ⟨ret_bool (a := false) HNo.out.symm, HB.out.trans (HBX.out.mono HB.out.size)⟩
                · have hrow : rowB s0.size s = true := by
                    unfold rowB
                    rw [pix_all (fun j hj => HX.out j hj (by omega))]
                    simp [He.out]
                  have HR := Lib.hid hrow
                  clear hrow
                  go_wp2
                  go_roundw
                  case rel => exact ⟨y + 1, by omega, by go_num, fun j hj => by
                    by_cases e : j = y
                    · subst e; rw [Hs.out]; exact HR.out
                    · exact H.out j (by omega), HB.out.trans (HBX.out.mono HB.out.size)⟩
                  case measure => simp [intOf]; omega
            · have he2 : ((s.size : Int) == (s0.size : Int)) = false := by simp; omega
              have hno := VN'.out (by unfold rowB; simp [he])
              have HNo := Lib.hid hno
              clear he hno
              go_wp2
              go_quiet (fail)
              go_wp2
              go_ret
              exact ⟨ret_bool (a := false) HNo.out.symm, HB.out.trans (Joins.below_draws _ _ _)⟩
          · obtain rfl : y = n := by omega
            have hyes := VY.out H.out
            have HYes := Lib.hid hyes
            have HB := Lib.hid hbel
            clear hyes hbel
            go_wp2
            go_ret
            exact ⟨ret_bool (a := true) HYes.out.symm, HB.out⟩
end Go.Proofs.YtnmnlbgialolhaaDoor

/- Contracts of single functions, and plain lemmas, on which the exact laws of this seat rest; each holds under the conditions that it states. -/
namespace Go.Proofs.YtnmnlbgialolhaaDoor
set_option linter.unusedVariables false
open Go.RowKit

/-! ### words: bit x is set where f x holds -/
def wordF (f : Nat → Bool) : Nat → Nat
  | 0 => 0
  | k + 1 => wordF f k + if f k then 2 ^ k else 0
theorem wordF_lt (f : Nat → Bool) (k : Nat) : wordF f k < 2 ^ k := by
  induction k with
  | zero => simp [wordF]
  | succ k ih => simp only [wordF, Nat.pow_succ]; split <;> omega
theorem wordF_or (f : Nat → Bool) (k : Nat) (h : f k = true) : wordF f k ||| 2 ^ k = wordF f (k + 1) := by
  have := nat_join k (2 ^ k) (wordF f k) (by simp) (wordF_lt f k)
  rw [Nat.or_comm, this]
  simp [wordF, h]; omega
theorem wordF_bit (f : Nat → Bool) (k i : Nat) : (wordF f k).testBit i = (decide (i < k) && f i) := by
  induction k with
  | zero => simp [wordF]
  | succ k ih =>
    by_cases h : f k = true
    · rw [← wordF_or f k h, Nat.testBit_or, ih, Nat.testBit_two_pow]
      by_cases e : k = i
      · subst e; simp [h]
      · simp [e]
        by_cases h1 : i < k
        · simp [h1, show i < k + 1 from by omega]
        · simp [h1, show ¬ i < k + 1 from by omega]
    · have hf : f k = false := by simpa using h
      simp only [wordF, hf]
      rw [show (if false = true then 2 ^ k else 0) = 0 from rfl, Nat.add_zero, ih]
      by_cases e : i = k
      · subst e; simp [hf]
      · by_cases h1 : i < k
        · simp [h1, show i < k + 1 from by omega]
        · simp [h1, show ¬ i < k + 1 from by omega]

/-- is the byte x of a row black -/
def blackAt (s : ByteArray) (x : Nat) : Bool := s.data.toList.getD x 0 == 35
theorem blackAt_eq (s : ByteArray) (x : Nat) (h : x < s.size) : blackAt s x = (s[x]'h == 35) := by
  unfold blackAt
  have : x < s.data.toList.length := by simpa using h
  rw [List.getD_eq_getElem?_getD, List.getElem?_eq_getElem this]
  rfl
def rowWord (s : ByteArray) : Nat := wordF (blackAt s) s.size

def goodRow (s : ByteArray) : Prop := 1 ≤ s.size ∧ s.size ≤ 16 ∧ ∀ (j : Nat) (hj : j < s.size), pixB (s[j]'hj) = true

theorem b35 {c : UInt8} (h : c.toNat = 35) : c = 35 := UInt8.toNat_inj.1 h
theorem b46 {c : UInt8} (h : c.toNat = 46) : c = 46 := UInt8.toNat_inj.1 h
theorem pix_cases {c : UInt8} (h : pixB c = true) : (c.toNat = 35 ∧ (c == 35) = true) ∨ (c.toNat = 46 ∧ (c == 35) = false) := by
  unfold pixB at h
  rcases Bool.or_eq_true_iff.1 h with h | h
  · exact Or.inl ⟨by rw [beq_iff_eq.1 h]; rfl, h⟩
  · exact Or.inr ⟨by rw [beq_iff_eq.1 h]; rfl, by rw [beq_iff_eq.1 h]; rfl⟩
theorem pix_not {c : UInt8} (h : pixB c = false) : c.toNat ≠ 35 ∧ c.toNat ≠ 46 := by
  constructor
  · intro e; rw [b35 e] at h; exact absurd h (by decide)
  · intro e; rw [b46 e] at h; exact absurd h (by decide)

theorem notEmpty {s : ByteArray} (h1 : 1 ≤ s.size) : s.toList.isEmpty = false := by
  rw [ByteArray.toList_eq]
  have hl : s.data.toList.length = s.size := by simp
  cases h : s.data.toList with
  | nil => rw [h, List.length_nil] at hl; omega
  | cons a l => rfl

theorem iter_below (w : World) (s : ByteArray) (pos : Nat) : Below w.heap.size w (w.iter s pos) := (Below.refl _ _).alloc (Nat.le_refl _) _

theorem orBit (W k : Nat) (hW : W < 2 ^ k) (hk : k ≤ 20) : bits .or .u32 (W : Int) ((2 : Int) ^ k % 4294967296) = ((W ||| 2 ^ k : Nat) : Int) := by
  have h2 : 2 ^ k ≤ 2 ^ 20 := Nat.pow_le_pow_right (by omega) hk
  have e : (2 : Int) ^ k % 4294967296 = ((2 ^ k : Nat) : Int) := by
    have : ((2 ^ k : Nat) : Int) = (2 : Int) ^ k := by simp
    rw [← this]; omega
  rw [e, u32_or_nat W (2 ^ k) (by omega) (by omega)]

set_option maxHeartbeats 1000000 in
set_option maxRecDepth 100000 in
theorem wordOfRow_yes (s : ByteArray) (w : World) (h : goodRow s) :
    Calls Tryd.prog 113 #[.string s] w fun e w' => e = .returned (.tuple #[.int .u32 (rowWord s), .nilIface]) ∧ Below w.heap.size w w' := by
  obtain ⟨h1, h16, hpx⟩ := h
  have HP := Lib.hid hpx
  clear hpx
  go_enter Tryd.func113, Tryd.ntmps113
  go_wp2
  go_loopw [4, 5, 6] (fun wv xv rv wr => ∃ k : Nat, k ≤ s.size ∧ wr = w.iter s k ∧ wv = .int .u32 (wordF (blackAt s) k)) (fun _ _ _ wr => s.size - wr.iterPos w.heap.size)
  case atStart => exact ⟨0, Nat.zero_le _, rfl, rfl⟩
  case round =>
    obtain ⟨k, hk, rfl, rfl⟩ := hrel
    by_cases hlt : k < s.size
    · have hnx : ∀ ty, (Instr.next (.pointer (some ⟨w.heap.size, 0, none⟩)) true ty).run Tryd.prog (w.iter s k) = _ := fun ty => run_next_any w s k ty hlt
      have hb := blackAt_eq s k hlt
      have hor := fun hh => (orBit _ k (wordF_lt (blackAt s) k) (by omega)).trans (congrArg (fun n : Nat => (n : Int)) (wordF_or (blackAt s) k hh))
      have hno : blackAt s k = false → wordF (blackAt s) (k + 1) = wordF (blackAt s) k := fun hh => by simp [wordF, hh]
      obtain ⟨W, hW⟩ : ∃ W, wordF (blackAt s) k = W := ⟨_, rfl⟩
      rw [hW] at hor hno ⊢
      have k16 : ¬ (k = 16) := by omega
      have k0 : (0 : Int) ≤ (k : Int) := by omega
      have k1 : (k : Int) < 16 := by omega
      have HOr := Lib.hid hor
      have HNo := Lib.hid hno
      have HW := Lib.hid hW
      have HB := Lib.hid hb
      clear hor hno hW hb
      rcases pix_cases (HP.out k hlt) with ⟨hc, hq⟩ | ⟨hc, hq⟩
      · rw [decode_ascii s k hlt (by omega), hc] at hnx
        have HQ := Lib.hid hq
        clear hc hq
        go_wp2
        go_roundw
        case rel => exact ⟨k + 1, by omega, rfl, congrArg (Value.int .u32) (HOr.out (by rw [HB.out]; exact HQ.out))⟩
        case measure => simp; omega
      · rw [decode_ascii s k hlt (by omega), hc] at hnx
        have HQ := Lib.hid hq
        clear hc hq
        go_wp2
        go_roundw
        case rel => exact ⟨k + 1, by omega, rfl, by rw [HNo.out (by rw [HB.out]; exact HQ.out)]⟩
        case measure => simp; omega
    · have hnx : ∀ ty, (Instr.next (.pointer (some ⟨w.heap.size, 0, none⟩)) true ty).run Tryd.prog (w.iter s k) = _ := fun ty => run_next_end w s k ty hlt
      have hks : k = s.size := by omega
      have hne : s.toList.isEmpty = false := by
        exact notEmpty h1
      have hW : wordF (blackAt s) k = rowWord s := by rw [hks]; rfl
      rw [hW]
      clear hW hks
      go_wp2
      go_ret2
      exact ⟨rfl, iter_below _ _ _⟩

def BadRow (w : World) (e : Ending) (w' : World) : Prop := ∃ T x, e = .returned (.tuple #[.int .u32 0, .iface T x]) ∧ Below w.heap.size w w'
/-- the error of a row's length lies there -/
def ErrLen (w : World) : Prop := ∃ T x, w.cell? ⟨4, 0, none⟩ = some (.iface T x)
theorem ErrLen.below {w w' : World} (h : ErrLen w) (hb : Below w.heap.size w w') : ErrLen w' := by
  obtain ⟨T, x, h⟩ := h
  exact ⟨T, x, cell_kept hb h⟩

theorem ErrLen.below2 {B : Nat} {w w' : World} (h : ErrLen w) (hb : Below B w w') (hB : w.heap.size ≤ B := by exact Nat.le_refl _) : ErrLen w' := h.below (hb.mono hB)

set_option maxHeartbeats 2000000 in
set_option maxRecDepth 100000 in
theorem wordOfRow_no (s : ByteArray) (w : World) (h : ¬ goodRow s) (he : ErrLen w) :
    Calls Tryd.prog 113 #[.string s] w (BadRow w) := by
  obtain ⟨T, x, hg⟩ := he
  have HG := Lib.hid h
  clear h
  go_enter Tryd.func113, Tryd.ntmps113
  go_wp2
  go_loopw [4, 5, 6] (fun wv xv rv wr => ∃ (k : Nat) (q : Int), k ≤ s.size ∧ k ≤ 16 ∧ wr = w.iter s k ∧ wv = .int .u32 q ∧ Hid (∀ (j : Nat) (hj : j < s.size), j < k → pixB (s[j]'hj) = true)) (fun _ _ _ wr => s.size - wr.iterPos w.heap.size)
  case atStart => exact ⟨0, 0, Nat.zero_le _, Nat.zero_le _, rfl, rfl, fun j _ h => by omega⟩
  case round =>
    obtain ⟨k, q, hk, hk16, rfl, rfl, H⟩ := hrel
    have hgk := cell_kept (iter_below w s k) hg
    by_cases hlt : k < s.size
    · have hnx : ∀ ty, (Instr.next (.pointer (some ⟨w.heap.size, 0, none⟩)) true ty).run Tryd.prog (w.iter s k) = _ := fun ty => run_next_any w s k ty hlt
      by_cases hpx : pixB (s[k]'hlt) = true
      · have H' : Hid (∀ (j : Nat) (hj : j < s.size), j < k + 1 → pixB (s[j]'hj) = true) := fun j hj hjk => by
          by_cases e : j = k
          · subst e; exact hpx
          · exact H.out j hj (by omega)
        have hgk' := cell_kept (iter_below w s (k + 1)) hg
        by_cases k16 : k = 16
        · subst k16
          rcases pix_cases hpx with ⟨hc, hq⟩ | ⟨hc, hq⟩
          all_goals
            rw [decode_ascii s 16 hlt (by omega), hc] at hnx
            clear hc hq hpx
            go_wp2
            go_quiet (fail)
            go_wp2
            go_ret2
            exact ⟨_, _, rfl, (iter_below _ _ _).trans (Joins.below_draws _ _ _)⟩
        · have k0 : (0 : Int) ≤ (k : Int) := by omega
          have k1 : (k : Int) < 16 := by omega
          rcases pix_cases hpx with ⟨hc, hq⟩ | ⟨hc, hq⟩
          all_goals
            rw [decode_ascii s k hlt (by omega), hc] at hnx
            clear hc hq hpx
            go_wp2
            go_roundw
            case rel => exact ⟨k + 1, _, by omega, by omega, rfl, rfl, H'⟩
            case measure => simp; omega
      · have hpf : pixB (s[k]'hlt) = false := by simpa using hpx
        obtain ⟨n35, n46⟩ := pix_not hpf
        obtain ⟨r, d, hd, hr35, hr46⟩ : ∃ (r d : Nat), Utf8.decode s k = (r, d) ∧ r ≠ 35 ∧ r ≠ 46 := by
          by_cases ha : (s[k]'hlt).toNat < 128
          · exact ⟨_, _, decode_ascii s k hlt ha, n35, n46⟩
          · have := (decode_high s k hlt (by omega)).1
            exact ⟨(Utf8.decode s k).1, (Utf8.decode s k).2, rfl, by omega, by omega⟩
        rw [hd] at hnx
        have c1 : ((r : Int) != 35) = true := by rw [bne_iff_ne]; omega
        have c2 : ((r : Int) != 46) = true := by rw [bne_iff_ne]; omega
        clear hd hr35 hr46 n35 n46 hpf hpx
        go_wp2
        go_ret2
        exact ⟨_, _, rfl, (iter_below _ _ _).trans (Joins.below_alloc1 _ _ |>.mono (by simp [World.iter]))⟩
    · have hnx : ∀ ty, (Instr.next (.pointer (some ⟨w.heap.size, 0, none⟩)) true ty).run Tryd.prog (w.iter s k) = _ := fun ty => run_next_end w s k ty hlt
      have hz : s.size = 0 := by
        rcases Nat.eq_zero_or_pos s.size with h | h
        · exact h
        · exact absurd ⟨h, by omega, fun j hj => H.out j hj (by omega)⟩ HG.out
      have hs : s = ByteArray.empty := WideShapes.bytes_inj (show s.data.toList = [] from List.length_eq_zero_iff.1 (by simpa using hz))
      subst hs
      obtain rfl : k = 0 := by omega
      go_wp2
      go_quiet (fail)
      go_wp2
      go_ret2
      exact ⟨_, _, rfl, (iter_below _ _ _).trans (Joins.below_draws _ _ _)⟩
end Go.Proofs.YtnmnlbgialolhaaDoor
