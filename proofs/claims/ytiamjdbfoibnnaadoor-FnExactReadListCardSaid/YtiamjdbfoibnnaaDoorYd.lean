/- Contracts of single functions, and plain lemmas, on which the exact laws of this seat rest; each holds under the conditions that it states. -/
import Derived.Test.YtiamjdbfoibnnaaDoorYc
import Derived.Test.YtiamjdbfoibnnaaDoorEc
namespace Go.Proofs.YtiamjdbfoibnnaaDoor
set_option linter.unusedVariables false
set_option linter.unusedSimpArgs false
open Go.RowKit

theorem spec_ReadList (s : ByteArray) (w : World) (hs : s.size ≤ 1048576) : Calls Tryd.prog 15 #[.string s] w (SaysL (rlN s) (rlB s) w) := by
  have C := Lib.hid (l01Numbers_any s w hs)
  clear hs
  unfold SaysL at C
  go_enter Tryd.func15, Tryd.ntmps15
  go_wp2_with fail
  refine C.out.mono ?_
  rintro e w' ⟨v, rfl, ho, hb⟩
  have HB := Lib.hid hb
  have HO := Lib.hid ho
  clear hb ho
  go_wp2_with fail
  go_ret2
  exact ⟨v, rfl, HO.out, HB.out⟩

theorem set_next {α : Type} (xs : List α) (y z : α) (n k : Nat) (hk : xs.length = k) (h : k < n) : (xs ++ List.replicate (n - k) z).set k y = (xs ++ [y]) ++ List.replicate (n - (k + 1)) z := by
  rw [show n - k = (n - (k + 1)) + 1 from by omega, List.replicate_succ, List.set_append, if_neg (by omega), hk]
  simp

theorem row_below {w w' : World} {base n s : Nat} {e : TypeId} {v : Value} {xs : List Value} (h : w.ownsRow base e s v n xs) (hb : Below w.heap.size w w') : w'.ownsRow base e s v n xs := by
  obtain ⟨h1, h2⟩ := h
  refine ⟨h1, ?_⟩
  rcases h2 with h2 | ⟨g, cap, cur, hv, hg, hh, r⟩
  · exact Or.inl h2
  · exact Or.inr ⟨g, cap, cur, hv, hg, (hb.block g (Array.getElem?_eq_some_iff.1 hh).1).trans hh, r⟩

/-- what SplitN hands back -/
def SaysSplit (qs : List ByteArray) (w : World) (e : Ending) (w' : World) : Prop := ∃ cap, e = .returned (.slice (some ⟨w.heap.size, 0, none⟩) qs.length cap) ∧ w.heap.size < w'.heap.size ∧ (∀ i, i < qs.length → w'.cell? ⟨w.heap.size, i, none⟩ = some (.string (qs.getD i ByteArray.empty))) ∧ Below w.heap.size w w'
theorem split_any (s : ByteArray) (w : World) (hs : s.size ≤ 1048576) (hM : ∃ m, w.cell? ⟨4, 0, none⟩ = some (.int .i64 m)) :
    Calls Tryd.prog 30 #[.string s, .string ⟨#[44]⟩, .int .i64 301] w (SaysSplit (Lib.splitB ⟨#[44]⟩ 0 (min 301 (s.size + 1) - 1) s) w) := by
  obtain ⟨m, hm⟩ := hM
  refine (Tryd.strings_SplitN s ⟨#[44]⟩ 301 m w (by omega) hm (by decide) (by omega) (by omega)).mono fun e w' ⟨he, hw⟩ => ⟨_, he, ?_, fun i hi => ?_, ?_⟩
  · rw [hw]; simp
  · rw [hw, World.cell?_alloc_mark]
    obtain ⟨qs, hq⟩ : ∃ q, Lib.splitB ⟨#[44]⟩ 0 (min 301 (s.size + 1) - 1) s = q := ⟨_, rfl⟩
    rw [hq] at hi ⊢
    simp only [Lib.cellsOf, List.getElem?_toArray]
    rw [List.getElem?_append_left (by simpa using hi)]
    simp [hi]
  · rw [hw]; exact Joins.below_alloc1 _ _

set_option maxHeartbeats 4000000 in
set_option maxRecDepth 100000 in
theorem impl_ReadList (s : ByteArray) (w : World) (hs : s.size ≤ 1048576) (hT : ∀ W, Below w.heap.size w W → Lib.TabIs Tryd.prog W "internal/strconv.uint64pow10" .u64 Lib.pow10Tab) (hS : ErrVar w 2) (hR : ErrVar w 3) (hM : ∃ m, w.cell? ⟨4, 0, none⟩ = some (.int .i64 m)) :
    Calls Tryd.prog 16 #[.string s] w (SaysL (rlN s) (rlB s) w) := by
  by_cases hn : s = ⟨#[110, 111, 110, 101]⟩
  · obtain ⟨e1, e2⟩ := rl_none hn
    rw [e1, e2]
    subst hn
    clear hT hS hR hM
    go_enter Tryd.func16, Tryd.ntmps16
    go_wp2
    go_ret2
    exact ⟨_, rfl, OwnI.nil _ _, Below.refl _ _⟩
  · obtain ⟨i0, hi, hz0, hz1, hz2⟩ := info_parts infoI64
    have hne : (s.toList == [110, 111, 110, 101]) = false := by
      have := text_ne hn
      rwa [show (⟨#[110, 111, 110, 101]⟩ : ByteArray).toList = [110, 111, 110, 101] from by rw [ByteArray.toList_eq]] at this
    have C := Lib.hid (split_any s w hs hM)
    unfold SaysSplit at C
    have HNo : Hid (okL (pieces s) = false → rlN s = [] ∧ rlB s = false) := rl_no hn
    have HYes : Hid (okL (pieces s) = true → rlN s = vals (pieces s) ∧ rlB s = true) := rl_yes hn
    have HPz := Lib.hid (piece_size hs)
    have hsp := pieces_split s
    clear hn hM
    by_cases hlong : 300 < (Lib.splitB ⟨#[44]⟩ 0 (min 301 (s.size + 1) - 1) s).length
    · have H1 := Lib.hid (HNo.out (okL_long (by rcases hsp with h | h
                                                · rw [← h]; exact hlong
                                                · exact h.2)))
      obtain ⟨qs, hq⟩ : ∃ q, Lib.splitB ⟨#[44]⟩ 0 (min 301 (s.size + 1) - 1) s = q := ⟨_, rfl⟩
      rw [hq] at C hlong
      obtain ⟨n, hnn⟩ : ∃ n, qs.length = n := ⟨_, rfl⟩
      rw [hnn] at C hlong
      have kn : (300 : Int) < (n : Int) := by omega
      clear hsp hq hnn HNo HYes HPz hT hS hR
      go_enter Tryd.func16, Tryd.ntmps16
      go_wp2_with fail
      refine C.out.mono ?_
      rintro e w1 ⟨cap, rfl, _, _, hb⟩
      have HB := Lib.hid hb
      clear hb
      go_wp2_with fail
      go_ret2
      rw [H1.out.1, H1.out.2]
      exact ⟨_, rfl, OwnI.nil _ _, HB.out⟩
    · have hsp : Lib.splitB ⟨#[44]⟩ 0 (min 301 (s.size + 1) - 1) s = pieces s := by
        rcases hsp with h | h
        · exact h
        · exact absurd h.1 hlong
      rw [hsp] at C hlong
      clear hsp
      obtain ⟨ps, hps⟩ : ∃ p, pieces s = p := ⟨_, rfl⟩
      rw [hps] at C hlong HNo HYes HPz
      clear hps
      have CV : Hid (∀ p ∈ ps, ∀ W, Below w.heap.size w W → Calls Tryd.prog 14 #[.string p] W (SaysRead (toL p) W)) := fun p hp W hb => impl_ReadDecimal p W (HPz.out p hp) (fun W2 h2 => hT W2 (hb.trans (h2.mono hb.size))) (hS.below hb) (hR.below hb)
      unfold SaysRead at CV
      have HBad : Hid (∀ k, k < ps.length → rd (toL (ps.getD k ByteArray.empty)) = none → rlN s = [] ∧ rlB s = false) := fun k h1 h2 => HNo.out (okL_no h1 h2)
      have HGood : Hid ((∀ i, i < ps.length → ∃ z, rd (toL (ps.getD i ByteArray.empty)) = some z) → rlN s = vals ps ∧ rlB s = true) := fun h => HYes.out (okL_yes (by omega) h)
      have HMem : Hid (∀ k, k < ps.length → ps.getD k ByteArray.empty ∈ ps) := fun k h => by
        rw [List.getD_eq_getElem?_getD, List.getElem?_eq_getElem h]; exact List.getElem_mem h
      have HVl : Hid (∀ k, k ≤ ps.length → (vals (ps.take k)).length = k) := fun k h => by
        show (vals (ps.take k)).length = k
        unfold vals; rw [List.length_map, List.length_take]; omega
      have HSet : Hid (∀ k z, k < ps.length → rd (toL (ps.getD k ByteArray.empty)) = some z → (intsV (vals (ps.take k)) ++ List.replicate (ps.length - k) (Value.int .i64 0)).set k (Value.int .i64 z) = intsV (vals (ps.take (k + 1))) ++ List.replicate (ps.length - (k + 1)) (Value.int .i64 0)) := fun k z h1 h2 => by
        show List.set _ _ _ = _
        rw [vals_take h1 h2, intsV_snoc]
        refine set_next (intsV (vals (ps.take k))) (Value.int .i64 z) (Value.int .i64 0) ps.length k ?_ h1
        unfold intsV
        rw [List.length_map]; exact HVl.out k (by omega)
      have HZero : Hid (List.replicate ps.length (Value.int .i64 0) = intsV (vals (ps.take 0)) ++ List.replicate (ps.length - 0) (Value.int .i64 0)) := rfl
      have HAll : Hid (vals (ps.take ps.length) = vals ps) := by show _ = _; rw [List.take_length]
      obtain ⟨n, hnn⟩ : ∃ n, ps.length = n := ⟨_, rfl⟩
      have HN := Lib.hid hnn
      rw [hnn] at C hlong HBad HGood HMem HVl HSet HZero HAll
      have kn : ¬ (300 : Int) < (n : Int) := by omega
      clear HNo HYes HPz hT hS hR hnn hsp
      go_enter Tryd.func16, Tryd.ntmps16
      go_wp2_with fail
      refine C.out.mono ?_
      rintro e w1 ⟨cap, rfl, hlt1, hcells, hb⟩
      have B1 := Lib.hid hb
      have HC := Lib.hid hcells
      clear hb hcells
      go_wp2_with (at_make; refine wpList_make_full _ rfl _ _ 24 rfl w1.heap.size 2 i0 (.int .i64 0) 1 Tryd.underlying24 hi hz0 hz1 _ _ _ _ n rfl rfl rfl rfl ?c1 ?c2 (Nat.le_refl _) ?_)
      case c1 => rw [hz2]; omega
      case c2 => unfold maxLen; omega
      intro w2 hown hg
      rw [toList_madeCells_one] at hown
      have hown2 : w2.ownsRow w1.heap.size 2 1 (.slice (some ⟨w1.heap.size, 0, none⟩) n n) n (List.replicate n (.int .i64 0)) := by simpa using hown
      rw [HZero.out] at hown2
      have HO0 := Lib.hid hown2
      have B20 : Hid (Below w1.heap.size w1 w2) := (Below.refl _ _).grown hg (Nat.le_refl _) (fun k h => by cases h)
      clear hown hown2 hg
      go_wp2
      go_loopw [22] (fun iv wr => ∃ k : Nat, k ≤ n ∧ iv = .int .i64 k ∧ Hid (∀ j, j < k → ∃ z, rd (toL (ps.getD j ByteArray.empty)) = some z) ∧ wr.ownsRow w1.heap.size 2 1 (.slice (some ⟨w1.heap.size, 0, none⟩) n n) n (intsV (vals (ps.take k)) ++ List.replicate (n - k) (.int .i64 0)) ∧ Below w1.heap.size w1 wr) (fun iv _ => n - (intOf iv).toNat)
      case atStart => exact ⟨0, Nat.zero_le _, rfl, fun j h => by omega, HO0.out, B20.out⟩
      case round =>
        clear HO0 B20
        obtain ⟨k, hk, rfl, HK, hown, hbel⟩ := hrel
        by_cases hlt : k < n
        · have hcell : wr.cell? ⟨w.heap.size, k, none⟩ = some (.string (ps.getD k ByteArray.empty)) := (hbel.cell (p := ⟨w.heap.size, k, none⟩) hlt1).trans (HC.out k hlt)
          have hbad := HBad.out k hlt
          have hset := fun z => HSet.out k z hlt
          have hCV := CV.out _ (HMem.out k hlt)
          have hvl := HVl.out k hk
          have hst : ∀ z, rd (toL (ps.getD k ByteArray.empty)) = some z → ∀ j, j < k + 1 → ∃ z, rd (toL (ps.getD j ByteArray.empty)) = some z := fun z h j hj => by
            by_cases e : j = k
            · subst e; exact ⟨z, h⟩
            · exact HK.out j (by omega)
          have HST := Lib.hid hst
          obtain ⟨x, hx⟩ : ∃ x, ps.getD k ByteArray.empty = x := ⟨_, rfl⟩
          rw [hx] at hcell hbad hset hCV HST
          have HBADk := Lib.hid hbad
          have HSETk := Lib.hid hset
          have HCV := Lib.hid hCV
          have HO := Lib.hid hown
          have HB := Lib.hid hbel
          have HW := Lib.hid (B1.out.trans (hbel.mono B1.out.size))
          have hs1 := hbel.size
          have kl : (k : Int) < (n : Int) := by omega
          have HL : Hid ((intsV (vals (ps.take k))).length = k) := by show _ = _; unfold intsV; rw [List.length_map]; exact hvl
          clear hx hbad hset hCV hown hbel hst hvl
          go_wp2_with fail
          refine (HCV.out _ HW.out).mono ?_
          rintro e w3 ⟨z, ok, rfl, hr, hb3⟩
          have B3 := Lib.hid (HB.out.trans (hb3.mono hs1))
          have W3 := Lib.hid (HW.out.trans (hb3.mono HW.out.size))
          have hown3 : w3.ownsRow w1.heap.size 2 1 (.slice (some ⟨w1.heap.size, 0, none⟩) n n) n (intsV (vals (ps.take k)) ++ List.replicate (n - k) (.int .i64 0)) := row_below HO.out hb3
          clear hb3 HO hcell
          rcases hr.rd with ⟨rfl, h2⟩ | ⟨rfl, h2⟩
          · have hfz := hown3.frozenAt k
            have hold := hown3.cellAt k (by omega)
            rw [List.getElem?_append_right (by rw [HL.out]; exact Nat.le_refl _)] at hold
            rw [HL.out, Nat.sub_self, show n - k = (n - (k + 1)) + 1 from by omega, List.replicate_succ] at hold
            simp only [List.getElem?_cons_zero] at hold
            have hst := (hown3.stored k (.int .i64 z)).1
            rw [HSETk.out z h2] at hst
            have HS := Lib.hid hst
            have HS2 := Lib.hid (HST.out z h2)
            clear h2 hr HSETk HST HBADk HCV hown3 hst
            go_wp2
            go_roundw
            case rel => exact ⟨k + 1, by omega, by go_num, HS2.out, HS.out, B3.out.setCell (Nat.le_refl _) _⟩
            case measure => simp [intOf]; omega
          · have H1 := Lib.hid (HBADk.out h2)
            clear h2 hr HSETk HST HBADk HCV hown3
            go_wp2_with fail
            go_ret2
            rw [H1.out.1, H1.out.2]
            exact ⟨_, rfl, OwnI.nil _ _, W3.out⟩
        · obtain rfl : k = n := by omega
          have H1 := Lib.hid (HGood.out HK.out)
          have hsz : w.heap.size ≤ w1.heap.size := Nat.le_of_lt hlt1
          have HO : Hid (OwnI wr w.heap.size (.slice (some ⟨w1.heap.size, 0, none⟩) k k) (vals ps)) := by
            refine OwnI.mono (base := w1.heap.size) ?_ hsz
            show World.ownsRow _ _ _ _ _ _ _
            have := HVl.out k hk
            rw [HAll.out] at this hown
            rw [this]
            rw [Nat.sub_self, List.replicate_zero, List.append_nil] at hown
            exact hown
          have HB := Lib.hid (B1.out.trans (hbel.mono B1.out.size))
          clear hown hbel
          go_wp2_with fail
          go_ret2
          rw [H1.out.1, H1.out.2]
          exact ⟨_, rfl, HO.out, HB.out⟩
end Go.Proofs.YtiamjdbfoibnnaaDoor
