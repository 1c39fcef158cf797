/- Contracts of single functions, and plain lemmas, on which the exact laws of this seat rest; each holds under the conditions that it states. -/
import Derived.Test.YtiamjdbfoibnnaaDoorNb
import Derived.Lib.BufferKept
import Derived.Lib.BufferOld
namespace Go.Proofs.YtiamjdbfoibnnaaDoor
set_option linter.unusedVariables false
set_option linter.unusedSimpArgs false
open Go.RowKit

theorem byteCells_snoc (l : List UInt8) (c : UInt8) : Lib.byteCells (l ++ [c]) = Lib.byteCells l ++ [.int .u8 c.toNat] := by simp [Lib.byteCells]
/-- what the buffer holds before number k -/
def tb (ns : List Int) : Nat → List UInt8
  | 0 => []
  | k + 1 => (ti ns k).data.toList
theorem tb_zero (ns : List Int) : (decB (ns.getD 0 0)).data.toList = tb ns 1 := rfl
theorem tb_step (ns : List Int) (k : Nat) (h : 1 ≤ k) : tb ns k ++ [44] ++ (decB (ns.getD k 0)).data.toList = tb ns (k + 1) := by
  obtain ⟨j, rfl⟩ : ∃ j, k = j + 1 := ⟨k - 1, by omega⟩
  show _ = (ti ns j ++ ((⟨#[44]⟩ : ByteArray) ++ decB (ns.getD (j + 1) 0))).data.toList
  simp [tb]
theorem tb_len {ns : List Int} {k : Nat} (hN : k ≤ 300) (hk : k ≤ ns.length) (H : ∀ j, j < k → inD (ns.getD j 0) (-1000000000) 1000000000 = true) : (tb ns k).length ≤ 3600 := by
  cases k with
  | zero => simp [tb]
  | succ k =>
    have hl : (ns.take (k + 1)).length = k + 1 := by rw [List.length_take]; omega
    have hg : ∀ j, j < k + 1 → (ns.take (k + 1)).getD j 0 = ns.getD j 0 := fun j hj => by
      rw [List.getD_eq_getElem?_getD, List.getD_eq_getElem?_getD, List.getElem?_take_of_lt hj]
    have h1 := ti_size (ns := ns.take (k + 1)) (fun i hi => by rw [hl] at hi; rw [hg i hi]; exact inD_true (H i hi)) k (by omega)
    have h2 : ∀ j, j < k + 1 → ti (ns.take (k + 1)) j = ti ns j := by
      intro j
      induction j with
      | zero => intro h; show decB _ = decB _; rw [hg 0 h]
      | succ j ih => intro h; show ti _ j ++ _ = ti _ j ++ _; rw [ih (by omega), hg (j + 1) h]
    rw [h2 k (by omega)] at h1
    show (ti ns k).data.toList.length ≤ _
    have : (ti ns k).data.toList.length = (ti ns k).size := by simp
    omega

set_option maxHeartbeats 4000000 in
set_option maxRecDepth 100000 in
theorem impl_ListText (v : Value) (ns : List Int) (w : World) (hN : ns.length ≤ maxLen) (hv : SlI w v ns) (hT : ∀ W, Below w.heap.size w W → Lib.TabIs Tryd.prog W "internal/strconv.uint64pow10" .u64 Lib.pow10Tab) :
    Calls Tryd.prog 11 #[v] w (SaysTB (lt1 ns) (fewB ns) w) := by
  unfold maxLen at hN
  rcases hv with ⟨ao, cap, rfl, rfl⟩ | ⟨b, off, cap, rfl, hpos, hb, hc⟩
  · go_enter Tryd.func11, Tryd.ntmps11
    go_wp2_with fail
    go_ret2
    exact ⟨rfl, Below.refl _ _⟩
  · by_cases hbig : ns.length ≤ 300
    · have HC := Lib.hid hc
      have HNo : Hid (∀ k, k < ns.length → inD (ns.getD k 0) (-1000000000) 1000000000 = false → fewB ns = false ∧ lt1 ns = ⟨#[]⟩) := fun k h1 h2 => by
        have := few_no h1 h2
        exact ⟨this, by unfold lt1; rw [this]; rfl⟩
      have HYes : Hid ((∀ i, i < ns.length → inD (ns.getD i 0) (-1000000000) 1000000000 = true) → fewB ns = true ∧ lt1 ns = ⟨(tb ns ns.length).toArray⟩) := fun h => by
        have hf : fewB ns = true := (few_yes h).trans (decide_eq_true hbig)
        refine ⟨hf, ?_⟩
        unfold lt1 tiV
        rw [hf, if_pos rfl, if_neg (by omega)]
        obtain ⟨j, hj⟩ : ∃ j, ns.length = j + 1 := ⟨ns.length - 1, by omega⟩
        rw [hj]
        show ti ns j = ⟨(ti ns j).data.toList.toArray⟩
        rw [Array.toArray_toList]
      have HL : Hid (∀ k, k ≤ ns.length → (∀ j, j < k → inD (ns.getD j 0) (-1000000000) 1000000000 = true) → (tb ns k).length ≤ 3600) := fun k h1 h2 => tb_len (by omega) h1 h2
      have HB0 := Lib.hid (tb_zero ns)
      have HBs := Lib.hid (tb_step ns)
      have HDec : Hid (∀ z : Int, -1000000000 ≤ z → z ≤ 1000000000 → ∀ W, Below w.heap.size w W → Calls Tryd.prog 8 #[.int .i64 z] W (fun e w' => e = .returned (.string (decB z)) ∧ Below W.heap.size W w')) := fun z h1 h2 W hb => impl_Decimal z W (by omega) (by omega) (hT W hb)
      obtain ⟨n, hn⟩ : ∃ n, ns.length = n := ⟨_, rfl⟩
      rw [hn] at HC HNo HYes HL hpos hbig ⊢
      have k0 : ((n : Int) == 0) = false := by rw [beq_eq_false_iff_ne]; omega
      have k1 : ¬ (300 : Int) < (n : Int) := by omega
      have hI0 : Lib.IsBuffer 42 5 w.heap.size w.heap.size (Lib.byteCells (tb ns 0)) (w.alloc (.cells #[.slice none 0 0, .int .i64 0, .int .i8 0] 42)) := Lib.fresh_isBuffer 42 5 w
      have I0 := Lib.hid hI0
      clear hn hc hN hT hI0
      go_enter Tryd.func11, Tryd.ntmps11
      go_wp2
      go_loopw [15] (fun iv wr => ∃ k : Nat, k ≤ n ∧ iv = .int .i64 k ∧ Hid (∀ j, j < k → inD (ns.getD j 0) (-1000000000) 1000000000 = true) ∧ Lib.IsBuffer 42 5 w.heap.size w.heap.size (Lib.byteCells (tb ns k)) wr ∧ Below w.heap.size w wr) (fun iv _ => n - (intOf iv).toNat)
      case atStart => exact ⟨0, Nat.zero_le _, rfl, fun j h => by omega, I0.out, Joins.below_alloc1 _ _⟩
      case round =>
        clear I0
        obtain ⟨k, hk, rfl, H, hI, hbel⟩ := hrel
        have hsz := hbel.size
        have hlt := hI.lt
        have hone : Hid (∀ v ∈ Lib.byteCells (tb ns k), v.oneCell' = true) := Lib.byteCells_one _
        have hln : Hid ((Lib.byteCells (tb ns k)).length ≤ 3600) := by show _ ≤ _; rw [Lib.byteCells_length]; exact HL.out k hk H.out
        have HI0 := Lib.hid hI
        have HB := Lib.hid hbel
        by_cases hlt2 : k < n
        · have hcell := (hbel.cell (p := ⟨b, off + k, none⟩) hb).trans (HC.out k hlt2)
          have hno := HNo.out k hlt2
          have hst : inD (ns.getD k 0) (-1000000000) 1000000000 = true → ∀ j, j < k + 1 → inD (ns.getD j 0) (-1000000000) 1000000000 = true := fun h j hj => by
            by_cases e : j = k
            · subst e; exact h
            · exact H.out j (by omega)
          have HST := Lib.hid hst
          have HStep : Hid (1 ≤ k → tb ns k ++ [44] ++ (decB (ns.getD k 0)).data.toList = tb ns (k + 1)) := HBs.out k
          have HSt0 : Hid (k = 0 → (decB (ns.getD k 0)).data.toList = tb ns (k + 1)) := fun e => by subst e; exact HB0.out
          obtain ⟨z, hz⟩ : ∃ z, ns.getD k 0 = z := ⟨_, rfl⟩
          rw [hz] at hcell hno HST HStep HSt0
          have HNO := Lib.hid hno
          have kx0 : (k : Int) < (n : Int) := by omega
          clear hz hno hst hI hbel
          go_wp2_with fail
          refine (isValue_d _ _).mono ?_
          rintro e w' ⟨rfl, rfl⟩
          cases hin : inD z (-1000000000) 1000000000 with
          | false =>
            have h1 := Lib.hid (HNO.out hin)
            clear hin hcell
            go_wp2_with fail
            go_ret2
            rw [h1.out.1, h1.out.2]
            exact ⟨rfl, HB.out⟩
          | true =>
            have h1 := Lib.hid (HST.out hin)
            have hzz := inD_true hin
            have hds := decB_size hzz.1 hzz.2
            have HDz := Lib.hid (HDec.out z hzz.1 hzz.2)
            obtain ⟨s, hs⟩ : ∃ s, decB z = s := ⟨_, rfl⟩
            rw [hs] at HDz HStep HSt0 hds
            clear hin hzz hs HNO HST hcell
            by_cases hk0 : 0 < k
            · have ky : (0 : Int) < (k : Int) := by omega
              have HSt := Lib.hid (HStep.out hk0)
              clear HStep HSt0
              go_wp2_with (refine (Tryd.Buffer_WriteByte_k _ _ _ _ wr HI0.out (by omega) hone.out (by have := hln.out; omega)).mono ?_; rintro e W2 ⟨rfl, hI2, hb2, hkept⟩; refine Hid.out ?_)
              refine Lib.hid ?_
              have I2 : Hid (Lib.IsBuffer 42 5 w.heap.size w.heap.size (Lib.byteCells (tb ns k ++ [44])) W2) := by
                show Lib.IsBuffer _ _ _ _ _ _
                rw [byteCells_snoc]; exact hI2
              have B2 := Lib.hid (HB.out.trans (hb2.mono (by omega)))
              have hs2 := B2.out.size
              have hlt2b := I2.out.lt
              clear hI2 hb2 hkept
              go_wp2_with fail
              refine (HDz.out _ B2.out).mono ?_
              rintro e W3 ⟨rfl, hb3⟩
              have I3 := Lib.hid (I2.out.old hb3)
              have B3 := Lib.hid (B2.out.trans (hb3.mono hs2))
              have hs3 := B3.out.size
              have hlt3 := I3.out.lt
              clear hb3
              go_wp2_with (refine (Tryd.Buffer_WriteString_k _ _ _ _ W3 I3.out (by omega) (Lib.byteCells_one _) (by have := hln.out; rw [byteCells_snoc, List.length_append]; simp; omega)).mono ?_; rintro e W4 ⟨rfl, hI4, hb4, hkept⟩; refine Hid.out ?_)
              refine Lib.hid ?_
              have B4 := Lib.hid (B3.out.trans (hb4.mono (by omega)))
              have I4 : Hid (Lib.IsBuffer 42 5 w.heap.size w.heap.size (Lib.byteCells (tb ns (k + 1))) W4) := by
                show Lib.IsBuffer _ _ _ _ _ _
                rw [← HSt.out, Lib.byteCells_append]; exact hI4
              clear hI4 hb4 hkept
              go_wp2
              go_roundw
              case rel => exact ⟨k + 1, by omega, by go_num, h1.out, I4.out, B4.out⟩
              case measure => simp [intOf]; omega
            · obtain rfl : k = 0 := by omega
              have HSt := Lib.hid (HSt0.out rfl)
              have hln0 : Hid (Lib.byteCells (tb ns 0) = []) := rfl
              clear HStep HSt0
              go_wp2_with fail
              refine (HDz.out _ HB.out).mono ?_
              rintro e W3 ⟨rfl, hb3⟩
              have I3 := Lib.hid (HI0.out.old hb3)
              have B3 := Lib.hid (HB.out.trans (hb3.mono hsz))
              have hs3 := B3.out.size
              have hlt3 := I3.out.lt
              clear hb3
              go_wp2_with (refine (Tryd.Buffer_WriteString_k _ _ _ _ W3 I3.out (by omega) (Lib.byteCells_one _) (by have := hln.out; omega)).mono ?_; rintro e W4 ⟨rfl, hI4, hb4, hkept⟩; refine Hid.out ?_)
              refine Lib.hid ?_
              have B4 := Lib.hid (B3.out.trans (hb4.mono (by omega)))
              have I4 : Hid (Lib.IsBuffer 42 5 w.heap.size w.heap.size (Lib.byteCells (tb ns (0 + 1))) W4) := by
                show Lib.IsBuffer _ _ _ _ _ _
                rw [← HSt.out]; rw [hln0.out, List.nil_append] at hI4; exact hI4
              clear hI4 hb4 hkept
              go_wp2
              go_roundw
              case rel => exact ⟨0 + 1, by omega, by go_num, h1.out, I4.out, B4.out⟩
              case measure => simp [intOf]; omega
        · obtain rfl : k = n := by omega
          have h1 := Lib.hid (HYes.out H.out)
          clear hI hbel
          go_wp2_with (refine (Tryd.Buffer_String _ _ (tb ns k) wr HI0.out).mono ?_; rintro e W2 ⟨rfl, m, rfl⟩)
          go_wp2
          go_ret2
          rw [h1.out.1, h1.out.2]
          exact ⟨rfl, HB.out.trans ⟨rfl, rfl, rfl, Nat.le_refl _, fun _ _ => rfl⟩⟩
    · have e0 : fewB ns = false := by
        unfold fewB
        rw [decide_eq_false hbig, Bool.and_false]
      have e1 : lt1 ns = ⟨#[]⟩ := by unfold lt1; rw [e0]; rfl
      rw [e0, e1]
      obtain ⟨n, hn⟩ : ∃ n, ns.length = n := ⟨_, rfl⟩
      rw [hn] at hbig hpos hN ⊢
      have k0 : ((n : Int) == 0) = false := by rw [beq_eq_false_iff_ne]; omega
      have k1 : (300 : Int) < (n : Int) := by omega
      clear hn hc hT e0 e1
      go_enter Tryd.func11, Tryd.ntmps11
      go_wp2_with fail
      go_ret2
      exact ⟨rfl, Below.refl _ _⟩
end Go.Proofs.YtiamjdbfoibnnaaDoor
