/- Contracts of single functions, and plain lemmas, on which the exact laws of this seat rest; each holds under the conditions that it states. -/
import Derived.Test.YtiamjdbfoibnnaaDoorLib
import Derived.Test.YtiamjdbfoibnnaaDoorShelf
import Derived.Laws.IdiomStrings
import Derived.OwnWalk
import Derived.OneCell
import Derived.IntWalk
import Derived.Lib.ItoaMem
import Derived.Lib.AppendIntMem
namespace Go.Proofs.YtiamjdbfoibnnaaDoor
set_option linter.unusedVariables false
set_option linter.unusedSimpArgs false
open Go.RowKit

/-! ### decimals -/
def bytesD (l : List UInt8) : List Value := l.map fun c => .int .u8 c.toNat
theorem bytesD_cons (c : UInt8) (l : List UInt8) : bytesD (c :: l) = [.int .u8 c.toNat] ++ bytesD l := rfl
theorem bytesD_len (l : List UInt8) : (bytesD l).length = l.length := by simp [bytesD]
theorem infoU8 : (Tryd.prog.info? 5).map (fun i => (i.zero, i.size, i.bytes)) = some (some (.int .u8 0), 1, 1) := by kernel_rfl

/-- r is left of N, and the digits behind it are there -/
structure DecI (N r : Nat) (ds : List UInt8) : Prop where
  st : (ds = [] ∧ r = N) ∨ (ds ≠ [] ∧ (r = 0 → ds = Lib.decDigits N) ∧ (r ≠ 0 → Lib.decDigits r ++ ds = Lib.decDigits N))
  pw : 10 ^ ds.length * r ≤ N
  len : ds.length ≤ 20
theorem DecI.zero (N : Nat) : DecI N N [] := ⟨Or.inl ⟨rfl, rfl⟩, by simp, by simp⟩
theorem DecI.step {N r : Nat} {ds : List UInt8} (H : DecI N r ds) (hN : N ≤ 9223372036854775808) (h : ds = [] ∨ r ≠ 0) : DecI N (r / 10) (UInt8.ofNat (48 + r % 10) :: ds) := by
  refine ⟨Or.inr ⟨by simp, fun h0 => ?_, fun h0 => ?_⟩, ?_, ?_⟩
  · have hr : r < 10 := by omega
    rcases H.st with ⟨rfl, rfl⟩ | ⟨h1, h2, h3⟩
    · rw [Lib.decDigits_one hr, Nat.mod_eq_of_lt hr]
    · have h4 : r ≠ 0 := by
        rcases h with h | h
        · exact absurd h h1
        · exact h
      have := h3 h4
      rw [Lib.decDigits_one hr] at this
      rw [Nat.mod_eq_of_lt hr]
      exact this
  · have hr : ¬ r < 10 := by omega
    have hd : Lib.decDigits r = Lib.decDigits (r / 10) ++ [UInt8.ofNat (48 + r % 10)] := by
      conv => lhs; rw [Lib.decDigits]
      rw [dif_neg hr]
    rcases H.st with ⟨rfl, rfl⟩ | ⟨h1, h2, h3⟩
    · exact hd.symm
    · have := h3 (by omega)
      rw [hd] at this
      simpa using this
  · have h1 := H.pw
    rw [List.length_cons, Nat.pow_succ, Nat.mul_assoc]
    have : 10 * (r / 10) ≤ r := by omega
    exact Nat.le_trans (Nat.mul_le_mul_left _ this) h1
  · rw [List.length_cons]
    rcases h with rfl | h
    · simp
    · have h1 := H.pw
      have h2 : 10 ^ ds.length ≤ N := Nat.le_trans (Nat.le_mul_of_pos_right _ (by omega)) h1
      apply Nat.le_of_not_lt
      intro hlt
      have h3 : 10 ^ 20 ≤ 10 ^ ds.length := Nat.pow_le_pow_right (by omega) (by omega)
      have h4 : (10 : Nat) ^ 20 = 100000000000000000000 := by decide
      omega
theorem DecI.done {N : Nat} {ds : List UInt8} (H : DecI N 0 ds) (h : ds ≠ []) : ds = Lib.decDigits N := by
  rcases H.st with ⟨h1, _⟩ | ⟨_, h2, _⟩
  · exact absurd h1 h
  · exact h2 rfl
def emptyW : Value → Nat | .slice _ m _ => 1 - m | _ => 0

/-- z is n's sign and r -/
def SgnZ (n z : Int) (r : Nat) : Prop := (0 ≤ n → z = (r : Int)) ∧ (n < 0 → z = -(r : Int))
theorem SgnZ.ne {n z : Int} {r : Nat} (h : SgnZ n z r) : (z != 0) = decide (r ≠ 0) := by
  rw [Bool.eq_iff_iff, bne_iff_ne, decide_eq_true_iff]
  by_cases h0 : 0 ≤ n
  · have := h.1 h0; omega
  · have := h.2 (by omega); omega
theorem SgnZ.div {n z : Int} {r : Nat} (h : SgnZ n z r) : SgnZ n (z.tdiv 10) (r / 10) := by
  refine ⟨fun h0 => ?_, fun h0 => ?_⟩
  · rw [h.1 h0, Int.tdiv_eq_ediv_of_nonneg (by omega)]; omega
  · rw [h.2 h0, Int.neg_tdiv, Int.tdiv_eq_ediv_of_nonneg (by omega)]; omega
theorem SgnZ.mod {n z : Int} {r : Nat} (h : SgnZ n z r) : (z.tmod 10 < 0 → -(z.tmod 10) = ((r % 10 : Nat) : Int)) ∧ (¬ z.tmod 10 < 0 → z.tmod 10 = ((r % 10 : Nat) : Int)) ∧ -9 ≤ z.tmod 10 ∧ z.tmod 10 ≤ 9 := by
  have e : (r : Int).tmod 10 = ((r % 10 : Nat) : Int) := by rw [Int.tmod_eq_emod_of_nonneg (by omega)]; omega
  have hb : r % 10 < 10 := Nat.mod_lt _ (by omega)
  by_cases h0 : 0 ≤ n
  · rw [h.1 h0, e]; refine ⟨fun h => ?_, fun _ => rfl, ?_, ?_⟩ <;> omega
  · rw [h.2 (by omega), Int.neg_tmod, e]; refine ⟨fun h => ?_, fun h => ?_, ?_, ?_⟩ <;> omega
theorem u8_val (d : Nat) (h : d < 10) : ((UInt8.ofNat (48 + d)).toNat : Int) = 48 + (d : Int) := by
  rw [UInt8.toNat_ofNat_of_lt' (by show _ < 256; omega)]; omega

/-- n in decimal handed back -/
def SaysDec (n : Int) (w : World) (e : Ending) (w' : World) : Prop := e = .returned (.string ⟨(Lib.itoa n).toArray⟩) ∧ Below w.heap.size w w'

set_option maxHeartbeats 2000000 in
set_option maxRecDepth 100000 in
theorem l01Dec_any (n : Int) (w : World) (h0 : -9223372036854775808 ≤ n) (h1 : n ≤ 9223372036854775807) : Calls Tryd.prog 19 #[.int .i64 n] w (SaysDec n w) := by
  obtain ⟨j0, hj, hy0, hy1, hy2⟩ := info_parts infoU8
  have hSt : ∀ (r : Nat) (ds : List UInt8), DecI n.natAbs r ds → (ds = [] ∨ r ≠ 0) → DecI n.natAbs (r / 10) (UInt8.ofNat (48 + r % 10) :: ds) := fun r ds H h => H.step (by omega) h
  have HSt := Lib.hid hSt
  have HS0 : Hid (SgnZ n n n.natAbs) := ⟨fun h => by omega, fun h => by omega⟩
  have HD0 := Lib.hid (DecI.zero n.natAbs)
  obtain ⟨N, hN⟩ : ∃ N, n.natAbs = N := ⟨_, rfl⟩
  rw [hN] at HSt HS0 HD0
  have HNb : Hid (N ≤ 9223372036854775808) := by show _ ≤ _; omega
  have HFin : Hid ((n < 0 → Lib.itoa n = 45 :: Lib.decDigits N) ∧ (¬ n < 0 → Lib.itoa n = Lib.decDigits N)) := by
    refine ⟨fun h => ?_, fun h => ?_⟩
    · unfold Lib.itoa; rw [if_pos h, hN]
    · unfold Lib.itoa; rw [if_neg h, ← hN]; congr 1; omega
  clear hSt hN h0 h1
  go_enter Tryd.func19, Tryd.ntmps19
  go_wp2
  go_loopw [3, 4, 5] (fun ov zv _ wr => ∃ (z : Int) (r g cap : Nat) (ds : List UInt8), zv = .int .i64 z ∧ ov = .slice (some ⟨g, 0, none⟩) ds.length cap ∧ wr.ownsRow w.heap.size 5 1 (.slice (some ⟨g, 0, none⟩) ds.length cap) ds.length (bytesD ds) ∧ Hid (SgnZ n z r) ∧ Hid (DecI N r ds) ∧ Below w.heap.size w wr) (fun ov zv _ _ => (intOf zv).natAbs + emptyW ov)
  case atStart =>
    exact ⟨n, N, w.heap.size, 0, [], rfl, rfl, World.ownsRow_lit (base := w.heap.size) (e := 5) (size := 1) w #[] 0 (Nat.le_refl _) (by unfold maxLen; omega) rfl, HS0.out, HD0.out, Joins.below_alloc1 _ _⟩
  case round =>
    obtain ⟨z, r, g, cap, ds, rfl, rfl, hown, HZ, HD, hbel⟩ := hrel
    have hlen := HD.out.len
    have hne := HZ.out.ne
    by_cases hgo : ds = [] ∨ r ≠ 0
    · have hm := HZ.out.mod
      have HZ2 := Lib.hid HZ.out.div
      have HD2 := Lib.hid (HSt.out r ds HD.out hgo)
      have hmeas : Hid ((z.tdiv 10).natAbs < z.natAbs ∨ (ds.length = 0 ∧ (z.tdiv 10).natAbs ≤ z.natAbs)) := by
        have h3 := HZ2.out
        have h4 := HZ.out
        have e1 : z.natAbs = r := by
          by_cases h : 0 ≤ n
          · have := h4.1 h; omega
          · have := h4.2 (by omega); omega
        have e2 : (z.tdiv 10).natAbs = r / 10 := by
          by_cases h : 0 ≤ n
          · have := h3.1 h; omega
          · have := h3.2 (by omega); omega
        rw [e1, e2]
        rcases hgo with h | h
        · right; exact ⟨by rw [h]; rfl, by omega⟩
        · left; omega
      have HB := Lib.hid hbel
      have HO := Lib.hid hown
      have hs := hbel.size
      have hdl : r % 10 < 10 := Nat.mod_lt _ (by omega)
      have hw : Hid (wrap64 (z.tdiv 10) = z.tdiv 10) := by
        have h1 : r ≤ N := Nat.le_trans (Nat.le_mul_of_pos_left _ (Nat.pow_pos (by omega))) HD.out.pw
        have h2 := HNb.out
        have h3 := HZ2.out
        refine IntWalk.wrap64_in _ ?_
        by_cases h : 0 ≤ n
        · have := h3.1 h; omega
        · have := h3.2 (by omega); omega
      obtain ⟨d, hd⟩ : ∃ d, r % 10 = d := ⟨_, rfl⟩
      rw [hd] at hm HD2 hdl
      have hbv := Lib.hid (bytesD_cons (UInt8.ofNat (48 + d)) ds)
      rw [u8_val d hdl] at hbv
      have hnews : ∀ j u, (bytesD ds)[j]? = some u → (wr.alloc (.cells #[.int .u8 (48 + (d : Int))] 5)).cell? ((⟨g, 0, none⟩ : Addr).add j) = some u := fun j u hu => (World.ownsRow.alloc HO.out _).cells (g := g) rfl j u hu
      have hone : ∀ u ∈ bytesD ds, u.oneCell' = true := fun u hu => by
        obtain ⟨c, _, rfl⟩ := List.mem_map.1 hu
        rfl
      have hlit : (wr.alloc (.cells #[.int .u8 (48 + (d : Int))] 5)).ownsRow w.heap.size 5 1 (.slice (some ⟨wr.heap.size, 0, none⟩) 1 1) 1 [.int .u8 (48 + (d : Int))] := World.ownsRow_lit (base := w.heap.size) (e := 5) (size := 1) wr #[.int .u8 (48 + (d : Int))] 1 hs (by unfold maxLen; omega) rfl
      have HNews := Lib.hid hnews
      have HOne := Lib.hid hone
      have HLit := Lib.hid hlit
      have kd : (d : Int) ≤ 9 := by omega
      obtain ⟨t, ht⟩ : ∃ t, z.tmod 10 = t := ⟨_, rfl⟩
      obtain ⟨z2, hz2⟩ : ∃ t, z.tdiv 10 = t := ⟨_, rfl⟩
      rw [ht] at hm
      rw [hz2] at HZ2 hmeas hw
      obtain ⟨m1, m2, m3, m4⟩ := hm
      obtain ⟨nl, hnl⟩ : ∃ nl, ds.length = nl := ⟨_, rfl⟩
      have HNl := Lib.hid hnl
      have hgo2 := Lib.hid hgo
      rw [hnl] at hlen HO hmeas ⊢
      by_cases hds : ds = []
      · have bl : ((nl : Int) == 0) = true := by rw [← hnl, hds]; rfl
        by_cases htn : t < 0
        · have hneg := m1 htn
          clear m1 m2 hown hbel hd hnews hone hlit hne hgo hds hnl
          go_wp2_with (at_builtin; refine wpList_append_own _ rfl _ _ 38 rfl w.heap.size 5 j0 (.int .u8 0) 1 1 Tryd.underlying38 hj hy0 hy1 hy2 rfl (by decide) _ _ _ rfl HLit.out ⟨g, 0, none⟩ nl cap (bytesD ds) rfl (by rw [bytesD_len, HNl.out, Nat.mul_one]) HNews.out HOne.out (by unfold maxLen; omega) (by omega) (by simp; omega) ?_)
          intro v' w1 hown' hgrow _
          have B2 := Lib.hid ((HB.out.alloc hs (.cells #[.int .u8 (48 + (d : Int))] 5)).grown hgrow (by simp; omega) (fun k hk => (HLit.out.lt k hk).1))
          obtain ⟨g', c', rfl⟩ := Joins.ownsRow_form hown' (by omega)
          have HO2 : Hid (w1.ownsRow w.heap.size 5 1 (.slice (some ⟨g', 0, none⟩) (1 + nl) c') (1 + nl) (bytesD (UInt8.ofNat (48 + d) :: ds))) := by
            show w1.ownsRow _ _ _ _ _ _
            rw [hbv.out]; exact hown'
          clear hown' hgrow
          go_wp2
          go_roundw
          case rel => exact ⟨z2, r / 10, g', c', UInt8.ofNat (48 + d) :: ds, congrArg (Value.int IntKind.i64) hw.out, by rw [List.length_cons, HNl.out, Nat.add_comm nl 1], by rw [List.length_cons, HNl.out, Nat.add_comm nl 1]; exact HO2.out, HZ2.out, HD2.out, B2.out⟩
          case measure => have := hmeas.out; have e : wrap64 z2 = z2 := hw.out; simp [intOf, emptyW, e]; omega
        · obtain rfl : t = (d : Int) := m2 htn
          clear m1 m2 hown hbel hd hnews hone hlit hne hgo hds hnl htn
          go_wp2_with (at_builtin; refine wpList_append_own _ rfl _ _ 38 rfl w.heap.size 5 j0 (.int .u8 0) 1 1 Tryd.underlying38 hj hy0 hy1 hy2 rfl (by decide) _ _ _ rfl HLit.out ⟨g, 0, none⟩ nl cap (bytesD ds) rfl (by rw [bytesD_len, HNl.out, Nat.mul_one]) HNews.out HOne.out (by unfold maxLen; omega) (by omega) (by simp; omega) ?_)
          intro v' w1 hown' hgrow _
          have B2 := Lib.hid ((HB.out.alloc hs (.cells #[.int .u8 (48 + (d : Int))] 5)).grown hgrow (by simp; omega) (fun k hk => (HLit.out.lt k hk).1))
          obtain ⟨g', c', rfl⟩ := Joins.ownsRow_form hown' (by omega)
          have HO2 : Hid (w1.ownsRow w.heap.size 5 1 (.slice (some ⟨g', 0, none⟩) (1 + nl) c') (1 + nl) (bytesD (UInt8.ofNat (48 + d) :: ds))) := by
            show w1.ownsRow _ _ _ _ _ _
            rw [hbv.out]; exact hown'
          clear hown' hgrow
          go_wp2
          go_roundw
          case rel => exact ⟨z2, r / 10, g', c', UInt8.ofNat (48 + d) :: ds, congrArg (Value.int IntKind.i64) hw.out, by rw [List.length_cons, HNl.out, Nat.add_comm nl 1], by rw [List.length_cons, HNl.out, Nat.add_comm nl 1]; exact HO2.out, HZ2.out, HD2.out, B2.out⟩
          case measure => have := hmeas.out; have e : wrap64 z2 = z2 := hw.out; simp [intOf, emptyW, e]; omega
      · have bl : ((nl : Int) == 0) = false := by
          rw [beq_eq_false_iff_ne, ← hnl]
          intro e
          exact hds (List.eq_nil_of_length_eq_zero (by omega))
        have bz : (z != 0) = true := by
          rw [hne]
          rcases hgo with h | h
          · exact absurd h hds
          · exact decide_eq_true h
        by_cases htn : t < 0
        · have hneg := m1 htn
          clear m1 m2 hown hbel hd hnews hone hlit hne hgo hds hnl
          go_wp2_with (at_builtin; refine wpList_append_own _ rfl _ _ 38 rfl w.heap.size 5 j0 (.int .u8 0) 1 1 Tryd.underlying38 hj hy0 hy1 hy2 rfl (by decide) _ _ _ rfl HLit.out ⟨g, 0, none⟩ nl cap (bytesD ds) rfl (by rw [bytesD_len, HNl.out, Nat.mul_one]) HNews.out HOne.out (by unfold maxLen; omega) (by omega) (by simp; omega) ?_)
          intro v' w1 hown' hgrow _
          have B2 := Lib.hid ((HB.out.alloc hs (.cells #[.int .u8 (48 + (d : Int))] 5)).grown hgrow (by simp; omega) (fun k hk => (HLit.out.lt k hk).1))
          obtain ⟨g', c', rfl⟩ := Joins.ownsRow_form hown' (by omega)
          have HO2 : Hid (w1.ownsRow w.heap.size 5 1 (.slice (some ⟨g', 0, none⟩) (1 + nl) c') (1 + nl) (bytesD (UInt8.ofNat (48 + d) :: ds))) := by
            show w1.ownsRow _ _ _ _ _ _
            rw [hbv.out]; exact hown'
          clear hown' hgrow
          go_wp2
          go_roundw
          case rel => exact ⟨z2, r / 10, g', c', UInt8.ofNat (48 + d) :: ds, congrArg (Value.int IntKind.i64) hw.out, by rw [List.length_cons, HNl.out, Nat.add_comm nl 1], by rw [List.length_cons, HNl.out, Nat.add_comm nl 1]; exact HO2.out, HZ2.out, HD2.out, B2.out⟩
          case measure => have := hmeas.out; have e : wrap64 z2 = z2 := hw.out; simp [intOf, emptyW, e]; omega
        · obtain rfl : t = (d : Int) := m2 htn
          clear m1 m2 hown hbel hd hnews hone hlit hne hgo hds hnl htn
          go_wp2_with (at_builtin; refine wpList_append_own _ rfl _ _ 38 rfl w.heap.size 5 j0 (.int .u8 0) 1 1 Tryd.underlying38 hj hy0 hy1 hy2 rfl (by decide) _ _ _ rfl HLit.out ⟨g, 0, none⟩ nl cap (bytesD ds) rfl (by rw [bytesD_len, HNl.out, Nat.mul_one]) HNews.out HOne.out (by unfold maxLen; omega) (by omega) (by simp; omega) ?_)
          intro v' w1 hown' hgrow _
          have B2 := Lib.hid ((HB.out.alloc hs (.cells #[.int .u8 (48 + (d : Int))] 5)).grown hgrow (by simp; omega) (fun k hk => (HLit.out.lt k hk).1))
          obtain ⟨g', c', rfl⟩ := Joins.ownsRow_form hown' (by omega)
          have HO2 : Hid (w1.ownsRow w.heap.size 5 1 (.slice (some ⟨g', 0, none⟩) (1 + nl) c') (1 + nl) (bytesD (UInt8.ofNat (48 + d) :: ds))) := by
            show w1.ownsRow _ _ _ _ _ _
            rw [hbv.out]; exact hown'
          clear hown' hgrow
          go_wp2
          go_roundw
          case rel => exact ⟨z2, r / 10, g', c', UInt8.ofNat (48 + d) :: ds, congrArg (Value.int IntKind.i64) hw.out, by rw [List.length_cons, HNl.out, Nat.add_comm nl 1], by rw [List.length_cons, HNl.out, Nat.add_comm nl 1]; exact HO2.out, HZ2.out, HD2.out, B2.out⟩
          case measure => have := hmeas.out; have e : wrap64 z2 = z2 := hw.out; simp [intOf, emptyW, e]; omega
    · have hds : ds ≠ [] := fun h => hgo (Or.inl h)
      obtain rfl : r = 0 := by
        apply Nat.eq_zero_of_le_zero
        apply Nat.le_of_not_lt
        intro h
        exact hgo (Or.inr (by omega))
      have hfin := HD.out.done hds
      have bz : (z != 0) = false := by rw [hne]; rfl
      have hcv : (convert 38 9 (.slice (some ⟨g, 0, none⟩) ds.length cap)).run Tryd.prog wr = .ok (.string ⟨ds.toArray⟩) wr :=
        run_convert_bytes_back (P := Tryd.prog) wr 38 9 5 ⟨g, 0, none⟩ cap ds Tryd.underlying38 Tryd.underlying5 Tryd.underlying9
          (fun j hj => hown.cells (g := g) rfl j _ (by unfold bytesD; rw [List.getElem?_map, List.getElem?_eq_getElem hj]; rfl))
      have HB := Lib.hid hbel
      have HO := Lib.hid hown
      have hs := hbel.size
      have hnews : ∀ j u, (bytesD ds)[j]? = some u → (wr.alloc (.cells #[.int .u8 45] 5)).cell? ((⟨g, 0, none⟩ : Addr).add j) = some u := fun j u hu => (World.ownsRow.alloc HO.out _).cells (g := g) rfl j u hu
      have hone : ∀ u ∈ bytesD ds, u.oneCell' = true := fun u hu => by
        obtain ⟨c, _, rfl⟩ := List.mem_map.1 hu
        rfl
      have hlit : (wr.alloc (.cells #[.int .u8 45] 5)).ownsRow w.heap.size 5 1 (.slice (some ⟨wr.heap.size, 0, none⟩) 1 1) 1 [.int .u8 45] := World.ownsRow_lit (base := w.heap.size) (e := 5) (size := 1) wr #[.int .u8 45] 1 hs (by unfold maxLen; omega) rfl
      have HNews := Lib.hid hnews
      have HOne := Lib.hid hone
      have HLit := Lib.hid hlit
      obtain ⟨nl, hnl⟩ : ∃ nl, ds.length = nl := ⟨_, rfl⟩
      have HNl := Lib.hid hnl
      have bl : ((nl : Int) == 0) = false := by
        rw [beq_eq_false_iff_ne, ← hnl]
        intro e
        exact hds (List.eq_nil_of_length_eq_zero (by omega))
      have HF := Lib.hid hfin
      rw [hnl] at hlen HO hcv ⊢
      by_cases hn : n < 0
      · have he := Lib.hid (HFin.out.1 hn)
        clear hown hbel hnews hone hlit hne hgo hds hnl hcv hfin
        go_wp2_with (at_builtin; refine wpList_append_own _ rfl _ _ 38 rfl w.heap.size 5 j0 (.int .u8 0) 1 1 Tryd.underlying38 hj hy0 hy1 hy2 rfl (by decide) _ _ _ rfl HLit.out ⟨g, 0, none⟩ nl cap (bytesD ds) rfl (by rw [bytesD_len, HNl.out, Nat.mul_one]) HNews.out HOne.out (by unfold maxLen; omega) (by omega) (by simp; omega) ?_)
        intro v' w1 hown' hgrow _
        have B2 := Lib.hid ((HB.out.alloc hs (.cells #[.int .u8 45] 5)).grown hgrow (by simp; omega) (fun k hk => (HLit.out.lt k hk).1))
        obtain ⟨g', c', rfl⟩ := Joins.ownsRow_form hown' (by omega)
        have hcv : (convert 38 9 (.slice (some ⟨g', 0, none⟩) (1 + nl) c')).run Tryd.prog w1 = .ok (.string ⟨(45 :: ds).toArray⟩) w1 := by
          have := run_convert_bytes_back (P := Tryd.prog) w1 38 9 5 ⟨g', 0, none⟩ c' (45 :: ds) Tryd.underlying38 Tryd.underlying5 Tryd.underlying9
            (fun j hj => World.ownsRow.cells (g := g') (show w1.ownsRow w.heap.size 5 1 (.slice (some ⟨g', 0, none⟩) (1 + nl) c') (1 + nl) (bytesD (45 :: ds)) from hown') rfl j _ (by unfold bytesD; rw [List.getElem?_map, List.getElem?_eq_getElem hj]; rfl))
          rwa [List.length_cons, HNl.out, Nat.add_comm nl 1] at this
        obtain ⟨S, hS⟩ : ∃ S : ByteArray, (⟨(45 :: ds).toArray⟩ : ByteArray) = S := ⟨_, rfl⟩
        rw [hS] at hcv
        have HSS := Lib.hid hS
        clear hown' hgrow hS
        go_wp2
        go_ret
        exact ⟨show Ending.returned (.string S) = _ from by rw [he.out, ← HF.out, HSS.out], B2.out⟩
      · have he := Lib.hid (HFin.out.2 (by omega))
        clear hown hbel hnews hone hlit hne hgo hds hnl hfin
        go_wp2
        go_ret
        exact ⟨show Ending.returned (.string ⟨ds.toArray⟩) = _ from by rw [he.out, ← HF.out], HB.out⟩

theorem impl_Decimal (n : Int) (w : World) (h0 : -9223372036854775808 ≤ n) (h1 : n ≤ 9223372036854775807) (hT : Lib.TabIs Tryd.prog w "internal/strconv.uint64pow10" .u64 Lib.pow10Tab) : Calls Tryd.prog 8 #[.int .i64 n] w (SaysDec n w) := by
  have C : Hid (Calls Tryd.prog 20 #[.int .i64 n, .int .i64 10] w (SaysDec n w)) := (Tryd.strconv_FormatInt_10 n h0 h1 w hT).mono fun e w' ⟨he, k, os, hw⟩ => ⟨he, by rw [hw]; exact Lib.below_grow _ w (Nat.le_refl _) k os⟩
  clear h0 h1 hT
  go_enter Tryd.func8, Tryd.ntmps8
  go_wp2_with fail
  refine C.out.mono ?_
  rintro e w' ⟨rfl, hb⟩
  have HB := Lib.hid hb
  clear hb
  go_wp2_with fail
  go_ret
  exact ⟨rfl, HB.out⟩
theorem spec_Decimal (n : Int) (w : World) (h0 : -9223372036854775808 ≤ n) (h1 : n ≤ 9223372036854775807) : Calls Tryd.prog 7 #[.int .i64 n] w (SaysDec n w) := by
  have C := Lib.hid (l01Dec_any n w h0 h1)
  clear h0 h1
  go_enter Tryd.func7, Tryd.ntmps7
  go_wp2_with fail
  refine C.out.mono ?_
  rintro e w' ⟨rfl, hb⟩
  have HB := Lib.hid hb
  clear hb
  go_wp2_with fail
  go_ret
  exact ⟨rfl, HB.out⟩
theorem law_Decimal (n : Int) (w : World) (h0 : -9223372036854775808 ≤ n) (h1 : n ≤ 9223372036854775807) (hT : ∀ W, Below w.heap.size w W → Lib.TabIs Tryd.prog W "internal/strconv.uint64pow10" .u64 Lib.pow10Tab) :
    Calls Tryd.prog 3 #[.int .i64 n] w fun e w' => e = .returned (.bool true) ∧ Below w.heap.size w w' := by
  have CS := Lib.hid (spec_Decimal n w h0 h1)
  have CI : Hid (∀ W, Below w.heap.size w W → Calls Tryd.prog 8 #[.int .i64 n] W (SaysDec n W)) := fun W hb => impl_Decimal n W h0 h1 (hT W hb)
  obtain ⟨L, hL⟩ : ∃ L : ByteArray, (⟨(Lib.itoa n).toArray⟩ : ByteArray) = L := ⟨_, rfl⟩
  unfold SaysDec at CS CI
  rw [hL] at CS CI
  clear h0 h1 hT hL
  go_enter Tryd.func3, Tryd.ntmps3
  go_wp2_with fail
  refine CS.out.mono ?_
  rintro e w1 ⟨rfl, hb1⟩
  have B1 := Lib.hid hb1
  clear hb1
  go_wp2_with fail
  refine (CI.out _ B1.out).mono ?_
  rintro e w2 ⟨rfl, hb2⟩
  have B2 := Lib.hid (B1.out.trans (hb2.mono B1.out.size))
  clear hb2
  go_wp2_with fail
  go_ret
  exact ⟨rfl, B2.out⟩
end Go.Proofs.YtiamjdbfoibnnaaDoor
