/- Contracts of single functions, and plain lemmas, on which the exact laws of this seat rest; each holds under the conditions that it states. -/
import Derived.Test.YtiamjdbfoibnnaaDoorNa
namespace Go.Proofs.YtiamjdbfoibnnaaDoor
set_option linter.unusedVariables false
set_option linter.unusedSimpArgs false
open Go.RowKit

/-! ### lists as texts: the document's side -/
def fewB (ns : List Int) : Bool := ns.all (fun n => inD n (-1000000000) 1000000000) && decide (ns.length ≤ 300)
def decB (n : Int) : ByteArray := ⟨(Lib.itoa n).toArray⟩
/-- the text of the numbers 0 to k -/
def ti (ns : List Int) : Nat → ByteArray
  | 0 => decB (ns.getD 0 0)
  | k + 1 => ti ns k ++ ((⟨#[44]⟩ : ByteArray) ++ decB (ns.getD (k + 1) 0))
theorem ti_step (ns : List Int) (k : Nat) (h : 1 ≤ k) : ti ns (k - 1) ++ ((⟨#[44]⟩ : ByteArray) ++ decB (ns.getD k 0)) = ti ns (k + 1 - 1) := by
  obtain ⟨j, rfl⟩ : ∃ j, k = j + 1 := ⟨k - 1, by omega⟩
  rfl
theorem few_at {ns : List Int} (h : fewB ns = true) : ns.length ≤ 300 ∧ ∀ i, i < ns.length → -1000000000 ≤ ns.getD i 0 ∧ ns.getD i 0 ≤ 1000000000 := by
  unfold fewB at h
  rw [Bool.and_eq_true, decide_eq_true_eq] at h
  refine ⟨h.2, fun i hi => ?_⟩
  have := List.all_eq_true.1 h.1 (ns.getD i 0) (by rw [List.getD_eq_getElem?_getD, List.getElem?_eq_getElem hi]; exact List.getElem_mem hi)
  exact inD_true this
theorem decB_size {n : Int} (h1 : -1000000000 ≤ n) (h2 : n ≤ 1000000000) : (decB n).size ≤ 11 := by
  have := (itoa_len h1 h2).2
  show (Lib.itoa n).toArray.size ≤ 11
  simpa using this
theorem ti_size {ns : List Int} (H : ∀ i, i < ns.length → -1000000000 ≤ ns.getD i 0 ∧ ns.getD i 0 ≤ 1000000000) : ∀ k, k < ns.length → (ti ns k).size ≤ 12 * (k + 1)
  | 0, h => by
    have := decB_size (H 0 h).1 (H 0 h).2
    show (decB (ns.getD 0 0)).size ≤ _
    omega
  | k + 1, h => by
    have h1 := ti_size H k (by omega)
    have h2 := decB_size (H (k + 1) h).1 (H (k + 1) h).2
    show (ti ns k ++ ((⟨#[44]⟩ : ByteArray) ++ decB (ns.getD (k + 1) 0))).size ≤ _
    rw [ByteArray.size_append, ByteArray.size_append]
    have h4 : (⟨#[44]⟩ : ByteArray).size = 1 := rfl
    omega
/-- the text of a list -/
def tiV (ns : List Int) : ByteArray := if ns.length = 0 then ⟨#[110, 111, 110, 101]⟩ else ti ns (ns.length - 1)
def SaysTB (s : ByteArray) (ok : Bool) (w : World) (e : Ending) (w' : World) : Prop := e = .returned (.tuple #[.string s, .bool ok]) ∧ Below w.heap.size w w'

theorem few_no {ns : List Int} {k : Nat} (hk : k < ns.length) (h : inD (ns.getD k 0) (-1000000000) 1000000000 = false) : fewB ns = false := by
  unfold fewB
  rw [Bool.and_eq_false_iff]
  left
  cases hall : ns.all (fun n => inD n (-1000000000) 1000000000) with
  | false => rfl
  | true =>
    have := List.all_eq_true.1 hall (ns.getD k 0) (by rw [List.getD_eq_getElem?_getD, List.getElem?_eq_getElem hk]; exact List.getElem_mem hk)
    rw [h] at this
    cases this
theorem few_yes {ns : List Int} (h : ∀ i, i < ns.length → inD (ns.getD i 0) (-1000000000) 1000000000 = true) : fewB ns = decide (ns.length ≤ 300) := by
  unfold fewB
  rw [show ns.all (fun n => inD n (-1000000000) 1000000000) = true from List.all_eq_true.2 fun x hx => by
    obtain ⟨i, hi, rfl⟩ := List.getElem_of_mem hx
    have := h i hi
    rwa [List.getD_eq_getElem?_getD, List.getElem?_eq_getElem hi] at this]
  rfl

set_option maxHeartbeats 400000 in
theorem l01Few_any (v : Value) (ns : List Int) (w : World) (hN : ns.length ≤ maxLen) (hv : SlI w v ns) :
    Calls Tryd.prog 21 #[v] w (fun e w' => e = .returned (.bool (fewB ns)) ∧ w = w') := by
  unfold maxLen at hN
  rcases hv with ⟨ao, cap, rfl, rfl⟩ | ⟨b, off, cap, rfl, hpos, hb, hc⟩
  · go_enter Tryd.func21, Tryd.ntmps21
    go_wp2
    refine wp_loop_rounds 1 ?_; rw [rounds_succ]
    go_wp2
    go_ret
    exact ⟨rfl, rfl⟩
  · have HC := Lib.hid hc
    have HNo : Hid (∀ k, k < ns.length → inD (ns.getD k 0) (-1000000000) 1000000000 = false → fewB ns = false) := fun k => few_no
    have HYes : Hid ((∀ i, i < ns.length → inD (ns.getD i 0) (-1000000000) 1000000000 = true) → fewB ns = decide (ns.length ≤ 300)) := few_yes
    obtain ⟨n, hn⟩ : ∃ n, ns.length = n := ⟨_, rfl⟩
    rw [hn] at HC HNo HYes hpos hN ⊢
    clear hn hc
    go_enter Tryd.func21, Tryd.ntmps21
    go_wp2
    go_loop [3] (fun iv => ∃ k : Nat, k ≤ n ∧ iv = .int .i64 k ∧ Hid (∀ j, j < k → inD (ns.getD j 0) (-1000000000) 1000000000 = true)) (fun iv => n - (intOf iv).toNat)
    case atStart => exact ⟨0, Nat.zero_le _, rfl, fun j h => by omega⟩
    case round =>
      obtain ⟨k, hk, rfl, H⟩ := hrel
      by_cases hlt : k < n
      · have hcell := HC.out k hlt
        have hno := HNo.out k hlt
        have hst : inD (ns.getD k 0) (-1000000000) 1000000000 = true → ∀ j, j < k + 1 → inD (ns.getD j 0) (-1000000000) 1000000000 = true := fun h j hj => by
          by_cases e : j = k
          · subst e; exact h
          · exact H.out j (by omega)
        have HST := Lib.hid hst
        obtain ⟨s, hs⟩ : ∃ s, ns.getD k 0 = s := ⟨_, rfl⟩
        rw [hs] at hcell hno HST
        have HNO := Lib.hid hno
        have k1 : (k : Int) < (n : Int) := by omega
        clear hs hno hst
        go_wp2_with fail
        refine (l00In_d _ _ _ _).mono ?_
        rintro e w' ⟨rfl, rfl⟩
        cases hin : inD s (-1000000000) 1000000000 with
        | false =>
          have h1 := Lib.hid (HNO.out hin)
          clear hin
          go_wp2
          go_ret
          exact ⟨ret_bool (a := false) h1.out.symm, rfl⟩
        | true =>
          have h1 := Lib.hid (HST.out hin)
          clear hin
          go_wp2
          go_round
          case rel => exact ⟨k + 1, by omega, by go_num, h1.out⟩
          case measure => simp [intOf]; omega
      · obtain rfl : k = n := by omega
        have h1 := Lib.hid (HYes.out H.out)
        go_wp2
        go_ret
        exact ⟨ret_bool (by rw [h1.out]; exact decide_eq_decide.2 (by omega)), rfl⟩

set_option maxHeartbeats 1000000 in
set_option maxRecDepth 100000 in
theorem l01Text_any (v : Value) (ns : List Int) (w : World) (hf : fewB ns = true) (hv : SlI w v ns) :
    Calls Tryd.prog 22 #[v] w (fun e w' => e = .returned (.string (tiV ns)) ∧ Below w.heap.size w w') := by
  obtain ⟨hN, hR⟩ := few_at hf
  rcases hv with ⟨ao, cap, rfl, rfl⟩ | ⟨b, off, cap, rfl, hpos, hb, hc⟩
  · go_enter Tryd.func22, Tryd.ntmps22
    go_wp2
    go_ret
    exact ⟨rfl, Below.refl _ _⟩
  · have HZ : Hid (∀ k, k < ns.length → (ti ns k).size ≤ 3600) := fun k hk => by have := ti_size hR k hk; omega
    have HD : Hid (∀ k, k < ns.length → (decB (ns.getD k 0)).size ≤ 11) := fun k hk => decB_size (hR k hk).1 (hR k hk).2
    have HDec : Hid (∀ k, k < ns.length → ∀ W, Calls Tryd.prog 19 #[.int .i64 (ns.getD k 0)] W (fun e w' => e = .returned (.string (decB (ns.getD k 0))) ∧ Below W.heap.size W w')) := fun k hk W => l01Dec_any _ W (by have := (hR k hk).1; omega) (by have := (hR k hk).2; omega)
    have HT := Lib.hid (ti_step ns)
    have H0 : Hid (ti ns (1 - 1) = decB (ns.getD 0 0)) := rfl
    have e1 : Hid (tiV ns = ti ns (ns.length - 1)) := by show tiV ns = _; unfold tiV; rw [if_neg (by omega)]
    have hc0 := hc 0 hpos
    rw [Nat.add_zero] at hc0
    have HC := Lib.hid hc
    have D0 := Lib.hid (HDec.out 0 hpos)
    obtain ⟨z0, hz0⟩ : ∃ z, ns.getD 0 0 = z := ⟨_, rfl⟩
    rw [hz0] at hc0 H0 D0
    obtain ⟨n, hn⟩ : ∃ n, ns.length = n := ⟨_, rfl⟩
    rw [hn] at HC HZ HD HDec e1 hN hpos ⊢
    have k0 : ((n : Int) == 0) = false := by rw [beq_eq_false_iff_ne]; omega
    have k1 : (0 : Int) < (n : Int) := by omega
    clear hn hc hR hf hz0
    go_enter Tryd.func22, Tryd.ntmps22
    go_wp2_with fail
    refine (D0.out _).mono ?_
    rintro e w1 ⟨rfl, hb1⟩
    have B1 := Lib.hid hb1
    clear hb1 hc0
    go_wp2_with fail
    go_loopw [3, 4] (fun ov yv wr => ∃ y : Nat, 1 ≤ y ∧ y ≤ n ∧ yv = .int .i64 y ∧ ov = .string (ti ns (y - 1)) ∧ Below w.heap.size w wr) (fun _ yv _ => n - (intOf yv).toNat)
    case atStart => exact ⟨1, by omega, hpos, rfl, by rw [H0.out], B1.out⟩
    case round =>
      obtain ⟨y, hy1, hy, rfl, rfl, hbel⟩ := hrel
      by_cases hlt : y < n
      · have hcell := (hbel.cell (p := ⟨b, off + y, none⟩) hb).trans (HC.out y hlt)
        have ht := HT.out y hy1
        have HTy := Lib.hid ht
        have z1 := HD.out y hlt
        have z2 := HZ.out (y - 1) (by omega)
        have Dy := Lib.hid (HDec.out y hlt)
        have HB := Lib.hid hbel
        obtain ⟨z, hz⟩ : ∃ z, ns.getD y 0 = z := ⟨_, rfl⟩
        rw [hz] at hcell HTy z1 Dy
        obtain ⟨s, hs⟩ : ∃ s, decB z = s := ⟨_, rfl⟩
        obtain ⟨t, htt⟩ : ∃ t, ti ns (y - 1) = t := ⟨_, rfl⟩
        rw [hs] at HTy z1 Dy
        rw [htt] at HTy z2 ⊢
        have k1 : (y : Int) < (n : Int) := by omega
        have hsz := HB.out.size
        clear hz hs htt ht hbel
        go_wp2_with fail
        refine (Dy.out _).mono ?_
        rintro e w2 ⟨rfl, hb2⟩
        have B2 := Lib.hid (HB.out.trans (hb2.mono hsz))
        clear hb2 hcell
        go_wp2_with fail
        go_roundw
        case rel => exact ⟨y + 1, by omega, by omega, by go_num, by rw [← HTy.out], B2.out⟩
        case measure => simp [intOf]; omega
      · obtain rfl : y = n := by omega
        obtain ⟨t, htt⟩ : ∃ t, ti ns (y - 1) = t := ⟨_, rfl⟩
        have HE := Lib.hid htt
        have HB := Lib.hid hbel
        rw [htt]
        clear htt hbel
        go_wp2
        go_ret
        exact ⟨by rw [e1.out, HE.out]; rfl, HB.out⟩

def lt1 (ns : List Int) : ByteArray := if fewB ns then tiV ns else ⟨#[]⟩
set_option maxHeartbeats 400000 in
theorem spec_ListText (v : Value) (ns : List Int) (w : World) (hN : ns.length ≤ maxLen) (hv : SlI w v ns) :
    Calls Tryd.prog 9 #[v] w (SaysTB (lt1 ns) (fewB ns) w) := by
  have C := Lib.hid (l01Few_any v ns w hN hv)
  cases hf : fewB ns with
  | false =>
    have e1 : Hid (lt1 ns = ⟨#[]⟩) := by show lt1 ns = _; unfold lt1; rw [hf]; rfl
    rw [hf] at C
    clear hv hf
    go_enter Tryd.func9, Tryd.ntmps9
    go_wp2_with fail
    refine C.out.mono ?_
    rintro e w' ⟨rfl, rfl⟩
    go_wp2_with fail
    go_ret2
    rw [e1.out]
    exact ⟨rfl, Below.refl _ _⟩
  | true =>
    have e1 : Hid (lt1 ns = tiV ns) := by show lt1 ns = _; unfold lt1; rw [hf]; rfl
    have C2 := Lib.hid (l01Text_any v ns w hf hv)
    rw [hf] at C
    clear hv hf
    go_enter Tryd.func9, Tryd.ntmps9
    go_wp2_with fail
    refine C.out.mono ?_
    rintro e w' ⟨rfl, rfl⟩
    go_wp2_with fail
    refine C2.out.mono ?_
    rintro e w' ⟨rfl, hb⟩
    have HB := Lib.hid hb
    clear hb
    go_wp2_with fail
    go_ret2
    rw [e1.out]
    exact ⟨rfl, HB.out⟩
end Go.Proofs.YtiamjdbfoibnnaaDoor
