/- Contracts of single functions, and plain lemmas, on which the exact laws of this seat rest; each holds under the conditions that it states. -/
import Derived.Test.YtabkkpifkkgpeaaDoorAh
import Derived.Deep.QuietTactic
import Derived.BigQuiet
import Derived.Test.YtabkkpifkkgpeaaDoorL15
import Derived.Test.YtabkkpifkkgpeaaDoorAi
import Derived.Test.YtabkkpifkkgpeaaDoorCc
import Derived.Test.YtabkkpifkkgpeaaDoorSE
import Derived.Test.YtabkkpifkkgpeaaDoorSF
import Derived.Test.YtabkkpifkkgpeaaDoorL12
namespace Go.Proofs.YtabkkpifkkgpeaaDoor
set_option linter.unusedVariables false
set_option linter.unusedSimpArgs false
open Go.RowKit

def NumsAt (w : World) (b off : Nat) (ns : List Int) : Prop := b < w.heap.size ∧ ∀ i, i < ns.length → w.cell? ⟨b, off + i, none⟩ = some (.int .i64 (ns.getD i 0))
theorem NumsAt.below {w w' : World} {b off : Nat} {ns : List Int} (h : NumsAt w b off ns) (hb : Below w.heap.size w w') : NumsAt w' b off ns :=
  ⟨Nat.lt_of_lt_of_le h.1 hb.size, fun i hi => cell_kept hb (h.2 i hi)⟩
def SlN (w : World) (v : Value) (ns : List Int) : Prop :=
  (∃ ao cap, v = .slice ao 0 cap ∧ ns = []) ∨ (∃ b off cap, v = .slice (some ⟨b, off, none⟩) ns.length cap ∧ 0 < ns.length ∧ NumsAt w b off ns)
theorem SlN.below {w w' : World} {v : Value} {ns : List Int} (h : SlN w v ns) (hb : Below w.heap.size w w') : SlN w' v ns := by
  rcases h with h | ⟨b, off, cap, h1, h2, h3⟩
  · exact Or.inl h
  · exact Or.inr ⟨b, off, cap, h1, h2, h3.below hb⟩
theorem infoN64 : (Tryd.prog.info? 2).map (fun i => (i.zero, i.size, i.bytes)) = some (some (.int .i64 0), 1, 8) := by kernel_rfl
def numsV (ns : List Int) : List Value := ns.map (Value.int .i64)
theorem own_nums {w : World} {base g n cap : Nat} {ns : List Int} (e : TypeId) (h : w.ownsRow base e 1 (.slice (some ⟨g, 0, none⟩) n cap) n (numsV ns)) (hn : ns.length = n) : SlN w (.slice (some ⟨g, 0, none⟩) n cap) ns := by
  by_cases h0 : n = 0
  · subst h0
    exact Or.inl ⟨_, _, rfl, List.length_eq_zero_iff.1 hn⟩
  · refine Or.inr ⟨g, 0, cap, by rw [hn], by omega, (h.lt g rfl).2, fun i hi => ?_⟩
    have := h.cellAt i (by omega)
    rw [Nat.zero_add, this]
    simp [numsV, hi]

theorem SlN.form {w : World} {v : Value} {ns : List Int} (h : SlN w v ns) : ∃ ao cap, v = .slice ao ns.length cap := by
  rcases h with ⟨ao, cap, rfl, rfl⟩ | ⟨b, off, cap, rfl, _⟩
  · exact ⟨_, _, rfl⟩
  · exact ⟨_, _, rfl⟩

set_option maxHeartbeats 400000 in
theorem eqInt64N (u v : Value) (ns : List Int) (w : World) (hA : ns.length ≤ maxLen) (hu : SlN w u ns) (hv : SlN w v ns) :
    Calls Tryd.prog 42 #[u, v] w (fun e w' => e = .returned (.bool true) ∧ Below w.heap.size w w') := by
  unfold maxLen at hA
  rcases hu with ⟨ao, cap, rfl, rfl⟩ | ⟨b, off, cap, rfl, hpos, hb, hc⟩
  · obtain ⟨ao2, cap2, rfl⟩ := hv.form
    go_enter Tryd.func42, Tryd.ntmps42
    go_wp2
    refine wp_loop_rounds 1 ?_; rw [rounds_succ]
    go_wp2
    go_ret
    exact ⟨rfl, Below.refl _ _⟩
  · rcases hv with ⟨ao2, cap2, rfl, rfl⟩ | ⟨b2, off2, cap2, rfl, hpos2, hb2, hc2⟩
    · simp at hpos
    · obtain ⟨n, hn⟩ : ∃ n, ns.length = n := ⟨_, rfl⟩
      rw [hn] at hc hc2 hpos hA ⊢
      have HC := Lib.hid hc
      have HC2 := Lib.hid hc2
      clear hn hc hc2 hpos2
      go_enter Tryd.func42, Tryd.ntmps42
      go_wp2
      go_loopw [5] (fun i wr => ∃ k : Nat, k ≤ n ∧ i = .int .i64 k ∧ Below w.heap.size w wr) (fun i _ => n - (intOf i).toNat)
      case atStart => exact ⟨0, Nat.zero_le _, rfl, Below.refl _ _⟩
      case round =>
        obtain ⟨k, hk, rfl, hbel⟩ := hrel
        by_cases hlt : k < n
        · have hcell := (hbel.cell (p := ⟨b, off + k, none⟩) hb).trans (HC.out k hlt)
          have hcell2 := (hbel.cell (p := ⟨b2, off2 + k, none⟩) hb2).trans (HC2.out k hlt)
          obtain ⟨s, hs⟩ : ∃ s, ns.getD k 0 = s := ⟨_, rfl⟩
          rw [hs] at hcell hcell2
          have HB := Lib.hid hbel
          clear hbel hs
          have k0 : (0 : Int) ≤ (k : Int) := by omega
          have k1 : (k : Int) < (n : Int) := by omega
          go_wp2
          go_quiet (fail)
          go_wp2
          go_roundw
          case rel => exact ⟨k + 1, by omega, by go_num, HB.out.trans (Joins.below_draws _ _ _)⟩
          case measure => simp [intOf]; omega
        · obtain rfl : k = n := by omega
          have HB := Lib.hid hbel
          clear hbel
          go_wp2
          go_ret
          exact ⟨rfl, HB.out⟩
/-- a variable of the call's own (a block of another type) is kept while an owned row grows -/
def OwnN (w : World) (base : Nat) (v : Value) (ns : List Int) : Prop := w.ownsRow base 2 1 v ns.length (numsV ns)
theorem OwnN.sl {w : World} {base : Nat} {v : Value} {ns : List Int} (h : OwnN w base v ns) : SlN w v ns := by
  rcases Joins.ownsRow_forms h with ⟨rfl, h0⟩ | ⟨g, cap, rfl⟩
  · exact Or.inl ⟨none, 0, rfl, List.length_eq_zero_iff.1 h0⟩
  · exact own_nums _ h rfl
theorem OwnN.below {w w' : World} {base : Nat} {v : Value} {ns : List Int} (h : OwnN w base v ns) (hb : Below w.heap.size w w') : OwnN w' base v ns := by
  refine ⟨h.1, ?_⟩
  rcases h.2 with h2 | ⟨g, cap, cur, hv, hg, hh, r⟩
  · exact Or.inl h2
  · exact Or.inr ⟨g, cap, cur, hv, hg, by rw [hb.block g (Array.getElem?_eq_some_iff.1 hh).1]; exact hh, r⟩
theorem OwnN.mono {w : World} {base base' : Nat} {v : Value} {ns : List Int} (h : OwnN w base v ns) (hb : base' ≤ base) : OwnN w base' v ns := Joins.ownsRow_le h hb
theorem OwnN.nil (w : World) (base : Nat) : OwnN w base (.slice none 0 0) [] := World.ownsRow_nil _ _ _ _
theorem numsV_snoc (ns : List Int) (n : Int) : numsV (ns ++ [n]) = numsV ns ++ [.int .i64 n] := by simp [numsV]

/-- a list of the call's own and a bool handed back -/
def SaysN (ns : List Int) (ok : Bool) (w : World) (e : Ending) (w' : World) : Prop := ∃ v, e = .returned (.tuple #[v, .bool ok]) ∧ OwnN w' w.heap.size v ns ∧ Below w.heap.size w w'

/-! ### marksN -/
/-- the numbers from k on -/
def marksN (k n : Nat) : List Int := (List.range n).map fun i => ((k + i : Nat) : Int)
theorem marksN_len (k n : Nat) : (marksN k n).length = n := by simp [marksN]
theorem marksN_at (k n j : Nat) (h : j < n) : (marksN k n).getD j 0 = ((k + j : Nat) : Int) := by
  unfold marksN
  rw [List.getD_eq_getElem?_getD, List.getElem?_map, List.getElem?_range h]
  rfl
/-- the first j are marked -/
def halfN (k : Nat) (ns : List Int) (j : Nat) : List Value := numsV (marksN k j) ++ (numsV ns).drop j
theorem halfN_zero (k : Nat) (ns : List Int) : halfN k ns 0 = numsV ns := by simp [halfN, marksN, numsV]
theorem halfN_full (k : Nat) (ns : List Int) : halfN k ns ns.length = numsV (marksN k ns.length) := by
  unfold halfN
  rw [List.drop_eq_nil_of_le (by simp [numsV]), List.append_nil]
theorem halfN_at (k : Nat) (ns : List Int) (j : Nat) (h : j < ns.length) : (halfN k ns j)[j]? = some (.int .i64 (ns.getD j 0)) := by
  unfold halfN
  rw [List.getElem?_append_right (by simp [numsV, marksN]), List.getElem?_drop]
  simp [numsV, marksN, h]
theorem halfN_set (k : Nat) (ns : List Int) (j : Nat) (h : j < ns.length) : (halfN k ns j).set j (.int .i64 ((k + j : Nat) : Int)) = halfN k ns (j + 1) := by
  have hl : (numsV ns).length = ns.length := by simp [numsV]
  unfold halfN
  rw [List.drop_eq_getElem_cons (i := j) (by rw [hl]; exact h), List.set_append, if_neg (by simp [numsV, marksN])]
  have e : j - (numsV (marksN k j)).length = 0 := by simp [numsV, marksN]
  rw [e, List.set_cons_zero]
  have e2 : numsV (marksN k (j + 1)) = numsV (marksN k j) ++ [.int .i64 ((k + j : Nat) : Int)] := by
    simp [numsV, marksN, List.range_succ]
  rw [e2]
  simp

set_option maxHeartbeats 1000000 in
theorem markInt64N (base : Nat) (v : Value) (ns : List Int) (k : Nat) (w : World) (hN : ns.length ≤ 1048576) (hk : k ≤ 1048576) (hv : OwnN w base v ns) :
    Calls Tryd.prog 43 #[v, .int .i64 k] w (fun e w' => e = .returned (.int .i64 ((k + ns.length : Nat) : Int)) ∧ OwnN w' base v (marksN k ns.length) ∧ Below base w w') := by
  rcases Joins.ownsRow_forms hv with ⟨rfl, h0⟩ | ⟨g, cap, rfl⟩
  · obtain rfl := List.length_eq_zero_iff.1 h0
    clear hv
    go_enter Tryd.func43, Tryd.ntmps43
    go_wp2
    refine wp_loop_rounds 1 ?_; rw [rounds_succ]
    go_wp2
    go_ret
    exact ⟨rfl, OwnN.nil _ _, Below.refl _ _⟩
  · have HH0 := Lib.hid (halfN_zero k ns)
    have HHf := Lib.hid (halfN_full k ns)
    have HAt := Lib.hid (halfN_at k ns)
    have HSet := Lib.hid (halfN_set k ns)
    have hgb : base ≤ g := (hv.lt g rfl).1
    unfold OwnN at hv ⊢
    rw [marksN_len]
    obtain ⟨n, hn⟩ : ∃ n, ns.length = n := ⟨_, rfl⟩
    rw [hn] at HHf HAt HSet hv hN ⊢
    rw [← HH0.out] at hv
    have HV := Lib.hid hv
    clear hv hn
    go_enter Tryd.func43, Tryd.ntmps43
    go_wp2
    go_loopw [1, 5] (fun kv iv wr => ∃ j : Nat, j ≤ n ∧ iv = .int .i64 j ∧ kv = .int .i64 ((k + j : Nat) : Int) ∧ wr.ownsRow base 2 1 (.slice (some ⟨g, 0, none⟩) n cap) n (halfN k ns j) ∧ Below base w wr) (fun _ iv _ => n - (intOf iv).toNat)
    case atStart => exact ⟨0, Nat.zero_le _, rfl, rfl, HV.out, Below.refl _ _⟩
    case round =>
      clear HV
      obtain ⟨j, hj, rfl, rfl, hown, hbel⟩ := hrel
      by_cases hlt : j < n
      · have hfz := hown.frozenAt j
        have hold := (hown.cellAt j (by omega)).trans (HAt.out j hlt)
        have hst := (hown.stored j (.int .i64 ((k + j : Nat) : Int))).1
        rw [HSet.out j hlt] at hst
        have HS := Lib.hid hst
        have HB := Lib.hid hbel
        have kl : (j : Int) < (n : Int) := by omega
        have kw : wrap64 (((k + j : Nat) : Int) + 1) = ((k + j : Nat) : Int) + 1 := IntWalk.wrap64_in _ (by omega)
        obtain ⟨z, hz⟩ : ∃ z : Int, ((k + j : Nat) : Int) = z := ⟨_, rfl⟩
        have HZ : Hid (((k + (j + 1) : Nat) : Int) = z + 1) := by show _ = _; omega
        have hzb : -9223372036854775808 ≤ z ∧ z ≤ 9223372036854775806 := by omega
        rw [hz] at kw HS ⊢
        clear hst hown hbel hz
        go_wp2
        go_roundw
        case rel => exact ⟨j + 1, by omega, by go_num, by rw [HZ.out], HS.out, HB.out.setCell hgb _⟩
        case measure => simp [intOf]; omega
      · obtain rfl : j = n := by omega
        rw [HHf.out] at hown
        have HO := Lib.hid hown
        have HB := Lib.hid hbel
        clear hown hbel
        go_wp2
        go_ret
        exact ⟨rfl, HO.out, HB.out⟩

end Go.Proofs.YtabkkpifkkgpeaaDoor

/- Contracts of single functions, and plain lemmas, on which the exact laws of this seat rest; each holds under the conditions that it states. -/
namespace Go.Proofs.YtabkkpifkkgpeaaDoor
set_option linter.unusedVariables false
set_option linter.unusedSimpArgs false
open Go.RowKit

/-- how many pixels the square of this side leaves -/
def szN (ss : List ByteArray) (k : Nat) : Int := cbV (pxP 2 ss (elL (sqF k)))
def szL (ss : List ByteArray) (n : Nat) : List Int := (List.range n).map fun j => szN ss (j + 1)
def szV (ss : List ByteArray) : List Int := if validB ss then szL ss 5 else []
theorem szL_len (ss : List ByteArray) (n : Nat) : (szL ss n).length = n := by simp [szL]
theorem szL_snoc (ss : List ByteArray) (n : Nat) : numsV (szL ss (n + 1)) = numsV (szL ss n) ++ [.int .i64 (szN ss (n + 1))] := by
  simp [szL, numsV, List.range_succ]
theorem szV_len (ss : List ByteArray) : (szV ss).length ≤ 5 := by
  unfold szV
  split
  · rw [szL_len]; omega
  · simp
theorem sq_ok (k : Nat) (h : 1 ≤ k ∧ k ≤ 5) : elB (elL (sqF k)) = true := by
  obtain ⟨h1, h2⟩ := h
  rcases (by omega : k = 1 ∨ k = 2 ∨ k = 3 ∨ k = 4 ∨ k = 5) with rfl | rfl | rfl | rfl | rfl <;> decide +kernel
theorem sq_len (k : Nat) : (elL (sqF k)).length ≤ 81 := elL_len _
theorem sz_pic {ss : List ByteArray} (hok : validB ss = true) (k : Nat) (h : 1 ≤ k ∧ k ≤ 5) : pxP 2 ss (elL (sqF k)) = mkPic (row0 ss).size ss.length (pxF 2 ss (elL (sqF k))) ∧ validB (mkPic (row0 ss).size ss.length (pxF 2 ss (elL (sqF k)))) = true ∧ pxOk ss (elL (sqF k)) = true := by
  have V := vp_of hok
  have h1 : pxOk ss (elL (sqF k)) = true := by unfold pxOk; rw [hok, sq_ok k h]; rfl
  exact ⟨by unfold pxP; rw [if_pos h1], mkPic_valid _ _ _ ⟨V.w1, V.w16⟩ ⟨V.n1, V.n16⟩, h1⟩

end Go.Proofs.YtabkkpifkkgpeaaDoor

/- Contracts of single functions, and plain lemmas, on which the exact laws of this seat rest; each holds under the conditions that it states. -/
namespace Go.Proofs.YtabkkpifkkgpeaaDoor
set_option linter.unusedVariables false
set_option linter.unusedSimpArgs false
open Go.RowKit

/-! ### opening and closing: plain facts -/
theorem all_mem (xs : List (Int × Int)) (P : Int × Int → Bool) : ((List.range xs.length).all fun i => P (xs.getD i (0, 0))) = true ↔ ∀ o ∈ xs, P o = true := by
  rw [List.all_eq_true]
  constructor
  · intro h o ho
    obtain ⟨i, hi, rfl⟩ := List.getElem_of_mem ho
    have := h i (List.mem_range.2 hi)
    rwa [List.getD_eq_getElem?_getD, List.getElem?_eq_getElem hi] at this
  · intro h i hi
    have hi := List.mem_range.1 hi
    rw [List.getD_eq_getElem?_getD, List.getElem?_eq_getElem hi]
    exact h _ (List.getElem_mem hi)
theorem any_mem (xs : List (Int × Int)) (P : Int × Int → Bool) : ((List.range xs.length).any fun i => P (xs.getD i (0, 0))) = true ↔ ∃ o ∈ xs, P o = true := by
  rw [List.any_eq_true]
  constructor
  · rintro ⟨i, hi, h⟩
    have hi := List.mem_range.1 hi
    rw [List.getD_eq_getElem?_getD, List.getElem?_eq_getElem hi] at h
    exact ⟨_, List.getElem_mem hi, h⟩
  · rintro ⟨o, ho, h⟩
    obtain ⟨i, hi, rfl⟩ := List.getElem_of_mem ho
    refine ⟨i, List.mem_range.2 hi, ?_⟩
    rw [List.getD_eq_getElem?_getD, List.getElem?_eq_getElem hi]
    exact h
theorem fit_iff (ss : List ByteArray) (xs : List (Int × Int)) (X Y : Int) : fitB ss xs X Y = true ↔ ∀ o ∈ xs, pixI ss (X + o.1) (Y + o.2) = true := all_mem xs fun o => pixI ss (X + o.1) (Y + o.2)
theorem som_iff (ss : List ByteArray) (xs : List (Int × Int)) (X Y : Int) : somB ss xs X Y = true ↔ ∃ o ∈ xs, pixI ss (X - o.1) (Y - o.2) = true := any_mem xs fun o => pixI ss (X - o.1) (Y - o.2)
theorem opn_iff (ss : List ByteArray) (xs : List (Int × Int)) (X Y : Int) : opnI ss xs X Y = true ↔ ∃ o ∈ xs, fitB ss xs (X - o.1) (Y - o.2) = true := any_mem xs fun o => fitB ss xs (X - o.1) (Y - o.2)
theorem cls_iff (ss : List ByteArray) (xs : List (Int × Int)) (X Y : Int) : clsI ss xs X Y = true ↔ ∀ o ∈ xs, somB ss xs (X + o.1) (Y + o.2) = true := all_mem xs fun o => somB ss xs (X + o.1) (Y + o.2)
theorem pixI_iff (a b : Nat) (hb : 1 ≤ b) (f : Nat → Nat → Bool) (X Y : Int) : pixI (mkPic a b f) X Y = true ↔ ((0 ≤ X ∧ X < a) ∧ (0 ≤ Y ∧ Y < b)) ∧ f Y.toNat X.toNat = true := by
  by_cases h : (0 ≤ X ∧ X < a) ∧ (0 ≤ Y ∧ Y < b)
  · have := pixI_mk (f := f) (show X.toNat < a by omega) (show Y.toNat < b by omega)
    rw [Int.toNat_of_nonneg h.1.1, Int.toNat_of_nonneg h.2.1] at this
    rw [this]
    exact ⟨fun e => ⟨h, e⟩, fun e => e.2⟩
  · refine ⟨fun e => absurd ?_ h, fun e => absurd e.1 h⟩
    unfold pixI at e
    rw [mkPic_row0 _ _ _ hb, mkPic_len] at e
    simp only [Bool.and_eq_true] at e
    have e1 := e.1
    unfold insB inB at e1
    simp only [Bool.and_eq_true, decide_eq_true_eq] at e1
    omega
theorem opn_pix {ss : List ByteArray} {xs : List (Int × Int)} {X Y : Int} (h : opnI ss xs X Y = true) : pixI ss X Y = true := by
  obtain ⟨o, ho, hf⟩ := (opn_iff ss xs X Y).1 h
  have := (fit_iff ss xs _ _).1 hf o ho
  rwa [Int.sub_add_cancel, Int.sub_add_cancel] at this
theorem pix_cls {ss : List ByteArray} {xs : List (Int × Int)} {X Y : Int} (h : pixI ss X Y = true) : clsI ss xs X Y = true := by
  refine (cls_iff ss xs X Y).2 fun o ho => (som_iff ss xs _ _).2 ⟨o, ho, ?_⟩
  rw [Int.add_sub_cancel, Int.add_sub_cancel]
  exact h
theorem opn_mono {ss tt : List ByteArray} (hs : ∀ X Y, pixI ss X Y = true → pixI tt X Y = true) {xs : List (Int × Int)} {X Y : Int} (h : opnI ss xs X Y = true) : opnI tt xs X Y = true := by
  obtain ⟨o, ho, hf⟩ := (opn_iff ss xs X Y).1 h
  exact (opn_iff tt xs X Y).2 ⟨o, ho, (fit_iff tt xs _ _).2 fun q hq => hs _ _ ((fit_iff ss xs _ _).1 hf q hq)⟩
theorem cls_mono {ss tt : List ByteArray} (hs : ∀ X Y, pixI ss X Y = true → pixI tt X Y = true) {xs : List (Int × Int)} {X Y : Int} (h : clsI ss xs X Y = true) : clsI tt xs X Y = true := by
  refine (cls_iff tt xs X Y).2 fun o ho => ?_
  obtain ⟨q, hq, hp⟩ := (som_iff ss xs _ _).1 ((cls_iff ss xs X Y).1 h o ho)
  exact (som_iff tt xs _ _).2 ⟨q, hq, hs _ _ hp⟩
section
variable (a b : Nat) (hb : 1 ≤ b) (f : Nat → Nat → Bool) (xs : List (Int × Int))
include hb
theorem opened_pix (X Y : Int) : pixI (mkPic a b (pxF 2 (mkPic a b f) xs)) X Y = opnI (mkPic a b f) xs X Y := by
  rw [Bool.eq_iff_iff, pixI_iff a b hb]
  constructor
  · rintro ⟨h, e⟩
    have e2 : opnI (mkPic a b f) xs ((X.toNat : Nat) : Int) ((Y.toNat : Nat) : Int) = true := e
    rwa [Int.toNat_of_nonneg h.1.1, Int.toNat_of_nonneg h.2.1] at e2
  · intro e
    have h := ((pixI_iff a b hb f X Y).1 (opn_pix e)).1
    refine ⟨h, ?_⟩
    show opnI (mkPic a b f) xs ((X.toNat : Nat) : Int) ((Y.toNat : Nat) : Int) = true
    rwa [Int.toNat_of_nonneg h.1.1, Int.toNat_of_nonneg h.2.1]
theorem closed_pix (X Y : Int) : pixI (mkPic a b (pxF 3 (mkPic a b f) xs)) X Y = true ↔ ((0 ≤ X ∧ X < a) ∧ (0 ≤ Y ∧ Y < b)) ∧ clsI (mkPic a b f) xs X Y = true := by
  rw [pixI_iff a b hb]
  constructor
  · rintro ⟨h, e⟩
    refine ⟨h, ?_⟩
    have e2 : clsI (mkPic a b f) xs ((X.toNat : Nat) : Int) ((Y.toNat : Nat) : Int) = true := e
    rwa [Int.toNat_of_nonneg h.1.1, Int.toNat_of_nonneg h.2.1] at e2
  · rintro ⟨h, e⟩
    refine ⟨h, ?_⟩
    show clsI (mkPic a b f) xs ((X.toNat : Nat) : Int) ((Y.toNat : Nat) : Int) = true
    rwa [Int.toNat_of_nonneg h.1.1, Int.toNat_of_nonneg h.2.1]
theorem open_twice : mkPic a b (pxF 2 (mkPic a b (pxF 2 (mkPic a b f) xs)) xs) = mkPic a b (pxF 2 (mkPic a b f) xs) := by
  refine mkPic_congr fun y hy x hx => ?_
  show opnI (mkPic a b (pxF 2 (mkPic a b f) xs)) xs (x : Int) (y : Int) = opnI (mkPic a b f) xs (x : Int) (y : Int)
  rw [Bool.eq_iff_iff]
  constructor
  · exact opn_mono fun X Y h => by
      rw [opened_pix a b hb f xs] at h
      exact opn_pix h
  · intro h
    obtain ⟨o, ho, hf⟩ := (opn_iff _ xs _ _).1 h
    refine (opn_iff _ xs _ _).2 ⟨o, ho, (fit_iff _ xs _ _).2 fun q hq => ?_⟩
    rw [opened_pix a b hb f xs]
    refine (opn_iff _ xs _ _).2 ⟨q, hq, ?_⟩
    rwa [Int.add_sub_cancel, Int.add_sub_cancel]
theorem close_twice : mkPic a b (pxF 3 (mkPic a b (pxF 3 (mkPic a b f) xs)) xs) = mkPic a b (pxF 3 (mkPic a b f) xs) := by
  refine mkPic_congr fun y hy x hx => ?_
  show clsI (mkPic a b (pxF 3 (mkPic a b f) xs)) xs (x : Int) (y : Int) = clsI (mkPic a b f) xs (x : Int) (y : Int)
  rw [Bool.eq_iff_iff]
  constructor
  · intro h
    refine (cls_iff _ xs _ _).2 fun o ho => ?_
    obtain ⟨q, hq, hp⟩ := (som_iff _ xs _ _).1 ((cls_iff _ xs _ _).1 h o ho)
    have h2 := ((closed_pix a b hb f xs _ _).1 hp).2
    have h3 := (cls_iff _ xs _ _).1 h2 q hq
    rwa [Int.sub_add_cancel, Int.sub_add_cancel] at h3
  · exact cls_mono fun X Y h => (closed_pix a b hb f xs X Y).2 ⟨((pixI_iff a b hb f X Y).1 h).1, pix_cls h⟩
end
theorem sq_mem (k : Nat) (hk : k ≤ 5) (o : Int × Int) : o ∈ elL (sqF (k : Int)) ↔ (0 ≤ o.1 ∧ o.1 < k) ∧ (0 ≤ o.2 ∧ o.2 < k) := by
  rw [elL_mem]
  unfold sqF
  simp only [Bool.and_eq_true, decide_eq_true_eq]
  omega
theorem opn_less {ss : List ByteArray} {k : Nat} (hk : 1 ≤ k ∧ k ≤ 4) {X Y : Int} (h : opnI ss (elL (sqF ((k + 1 : Nat) : Int))) X Y = true) : opnI ss (elL (sqF (k : Int))) X Y = true := by
  obtain ⟨o, ho, hf⟩ := (opn_iff ss _ X Y).1 h
  have ho := (sq_mem (k + 1) (by omega) o).1 ho
  have hf := (fit_iff ss _ _ _).1 hf
  refine (opn_iff ss _ X Y).2 ⟨(if o.1 = k then o.1 - 1 else o.1, if o.2 = k then o.2 - 1 else o.2), (sq_mem k (by omega) _).2 ?_, (fit_iff ss _ _ _).2 fun q hq => ?_⟩
  · refine ⟨?_, ?_⟩
    · show 0 ≤ (if o.1 = k then o.1 - 1 else o.1) ∧ (if o.1 = k then o.1 - 1 else o.1) < k
      split <;> omega
    · show 0 ≤ (if o.2 = k then o.2 - 1 else o.2) ∧ (if o.2 = k then o.2 - 1 else o.2) < k
      split <;> omega
  · have hq := (sq_mem k (by omega) q).1 hq
    have := hf (q.1 + (if o.1 = k then 1 else 0), q.2 + (if o.2 = k then 1 else 0)) ((sq_mem (k + 1) (by omega) _).2 ⟨by show 0 ≤ q.1 + (if o.1 = k then 1 else 0) ∧ q.1 + (if o.1 = k then 1 else 0) < ((k + 1 : Nat) : Int); split <;> omega, by show 0 ≤ q.2 + (if o.2 = k then 1 else 0) ∧ q.2 + (if o.2 = k then 1 else 0) < ((k + 1 : Nat) : Int); split <;> omega⟩)
    rw [show X - (if o.1 = k then o.1 - 1 else o.1) + q.1 = X - o.1 + (q.1 + (if o.1 = k then 1 else 0)) from by split <;> omega, show Y - (if o.2 = k then o.2 - 1 else o.2) + q.2 = Y - o.2 + (q.2 + (if o.2 = k then 1 else 0)) from by split <;> omega]
    exact this
theorem opn_one {ss : List ByteArray} {X Y : Int} : opnI ss (elL (sqF ((1 : Nat) : Int))) X Y = pixI ss X Y := by
  rw [Bool.eq_iff_iff]
  refine ⟨opn_pix, fun h => (opn_iff ss _ X Y).2 ⟨(0, 0), (sq_mem 1 (by omega) _).2 ⟨⟨by decide, by decide⟩, by decide, by decide⟩, (fit_iff ss _ _ _).2 fun q hq => ?_⟩⟩
  have hq := (sq_mem 1 (by omega) q).1 hq
  rw [show X - ((0 : Int), (0 : Int)).1 + q.1 = X from by show X - 0 + q.1 = X; omega, show Y - ((0 : Int), (0 : Int)).2 + q.2 = Y from by show Y - 0 + q.2 = Y; omega]
  exact h
/-! ### numbers of pixels -/
theorem bs_mono {W V : Nat} : ∀ k, (∀ x, x < k → W.testBit x = true → V.testBit x = true) → bs W k ≤ bs V k
  | 0, _ => Nat.le_refl _
  | k + 1, h => by
    have := bs_mono k (fun x hx => h x (by omega))
    rw [bs_succ, bs_succ]
    by_cases e : W.testBit k = true
    · rw [if_pos e, if_pos (h k (by omega) e)]; omega
    · rw [if_neg e]; split <;> omega
theorem rs_mono {g k : Nat → Nat} : ∀ n, (∀ y, y < n → bs (g y) 16 ≤ bs (k y) 16) → rs g n ≤ rs k n
  | 0, _ => Nat.le_refl _
  | n + 1, h => by
    have := rs_mono n (fun y hy => h y (by omega))
    have := h n (by omega)
    rw [rs_succ, rs_succ]; omega
theorem count_mono (a b : Nat) (ha : 1 ≤ a ∧ a ≤ 16) (hb : 1 ≤ b ∧ b ≤ 16) (f g : Nat → Nat → Bool) (h : ∀ y, y < b → ∀ x, x < a → f y x = true → g y x = true) : cbV (mkPic a b f) ≤ cbV (mkPic a b g) := by
  have h1 := mkPic_valid a b f ha hb
  have h2 := mkPic_valid a b g ha hb
  have V1 := vp_of h1
  have V2 := vp_of h2
  unfold cbV
  rw [if_pos h1, if_pos h2, mkPic_len, mkPic_len]
  refine Int.ofNat_le.2 (rs_mono b fun y hy => bs_mono 16 fun x hx hbit => ?_)
  have r1 : (row0 (mkPic a b f)).size = a := mkPic_row0 _ _ _ hb.1
  have r2 : (row0 (mkPic a b g)).size = a := mkPic_row0 _ _ _ hb.1
  by_cases e : x < a
  · rw [words_at V1 y x (by rw [mkPic_len]; exact hy) (by rw [r1]; exact e), mkPic_pix a b f hy e] at hbit
    rw [words_at V2 y x (by rw [mkPic_len]; exact hy) (by rw [r2]; exact e), mkPic_pix a b g hy e]
    exact h y hy x e hbit
  · have h3 := words_lt_pow V1 y
    rw [r1] at h3
    have h4 : 2 ^ a ≤ 2 ^ x := Nat.pow_le_pow_right (by omega) (by omega)
    rw [Nat.testBit_lt_two_pow (by omega)] at hbit
    cases hbit
theorem count_pos (ss : List ByteArray) : 0 ≤ cbV ss := by unfold cbV; split <;> omega
section
variable (a b : Nat) (ha : 1 ≤ a ∧ a ≤ 16) (hb : 1 ≤ b ∧ b ≤ 16) (f : Nat → Nat → Bool)
include ha hb
theorem szN_mk (k : Nat) (hk : 1 ≤ k ∧ k ≤ 5) : szN (mkPic a b f) k = cbV (mkPic a b (pxF 2 (mkPic a b f) (elL (sqF (k : Int))))) := by
  have h1 := mkPic_valid a b f ha hb
  unfold szN
  rw [(sz_pic h1 k hk).1, mkPic_row0 _ _ _ hb.1, mkPic_len]
theorem szN_less (k : Nat) (hk : 1 ≤ k ∧ k ≤ 4) : szN (mkPic a b f) (k + 1) ≤ szN (mkPic a b f) k := by
  rw [szN_mk a b ha hb f (k + 1) (by omega), szN_mk a b ha hb f k (by omega)]
  exact count_mono a b ha hb _ _ fun y hy x hx h => opn_less hk h
theorem szN_one : szN (mkPic a b f) 1 = cbV (mkPic a b f) := by
  rw [szN_mk a b ha hb f 1 (by omega)]
  congr 1
  refine mkPic_congr fun y hy x hx => ?_
  show opnI (mkPic a b f) (elL (sqF ((1 : Nat) : Int))) (x : Int) (y : Int) = f y x
  rw [opn_one, pixI_mk hx hy]
theorem inside_mk (g : Nat → Nat → Bool) (h : ∀ y, y < b → ∀ x, x < a → f y x = true → g y x = true) : insideP (mkPic a b f) (mkPic a b g) = true := by
  have hl : likeB (mkPic a b f) (mkPic a b g) = true := by
    unfold likeB
    rw [mkPic_valid a b f ha hb, mkPic_valid a b g ha hb, mkPic_row0 _ _ _ hb.1, mkPic_row0 _ _ _ hb.1, mkPic_len, mkPic_len, decide_eq_true rfl, decide_eq_true rfl]
    rfl
  refine (inside_iff hl).2 fun y hy x hx hf => ?_
  rw [mkPic_len] at hy
  rw [mkPic_row0 _ _ _ hb.1] at hx
  rw [mkPic_pix a b _ hy hx] at hf ⊢
  exact h y hy x hx hf
end
end Go.Proofs.YtabkkpifkkgpeaaDoor
