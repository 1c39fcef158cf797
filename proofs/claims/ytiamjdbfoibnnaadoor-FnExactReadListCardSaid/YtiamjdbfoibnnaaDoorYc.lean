/- Contracts of single functions, and plain lemmas, on which the exact laws of this seat rest; each holds under the conditions that it states. -/
import Derived.Test.YtiamjdbfoibnnaaDoorYb
namespace Go.Proofs.YtiamjdbfoibnnaaDoor
set_option linter.unusedVariables false
set_option linter.unusedSimpArgs false
open Go.RowKit

/-! ### lists read -/
theorem row_far {w w' : World} {base base2 n n2 : Nat} {e e2 : TypeId} {s s2 : Nat} {v v2 : Value} {xs xs2 : List Value} (h : w.ownsRow base e s v n xs) (h2 : w.ownsRow base2 e2 s2 v2 n2 xs2) (he : e ≠ e2) (hg : w.grownBy w' v2.ownBlock) : w'.ownsRow base e s v n xs := by
  refine h.kept hg ?_
  rcases h.2 with ⟨hv, _⟩ | ⟨g, cap, cur, hv, _, hg1, _⟩
  · left; subst hv; rfl
  · right
    subst hv
    rcases h2.2 with ⟨hv2, _⟩ | ⟨g2, cap2, cur2, hv2, _, hg2, _⟩
    · subst hv2; simp [Value.ownBlock]
    · subst hv2
      simp only [Value.ownBlock]
      intro e1
      have e1 := Option.some.inj e1
      subst e1
      rw [hg1] at hg2
      simp at hg2
      exact he hg2.2

/-- a variable of the call's own (a block of another type) is kept while an owned row grows -/
def OwnI (w : World) (base : Nat) (v : Value) (ns : List Int) : Prop := w.ownsRow base 2 1 v ns.length (intsV ns)
theorem OwnI.sl {w : World} {base : Nat} {v : Value} {ns : List Int} (h : OwnI w base v ns) : SlI w v ns := by
  rcases Joins.ownsRow_forms h with ⟨rfl, h0⟩ | ⟨g, cap, rfl⟩
  · exact Or.inl ⟨none, 0, rfl, List.length_eq_zero_iff.1 h0⟩
  · exact own_ints _ h rfl
theorem OwnI.below {w w' : World} {base : Nat} {v : Value} {ns : List Int} (h : OwnI w base v ns) (hb : Below w.heap.size w w') : OwnI w' base v ns := by
  refine ⟨h.1, ?_⟩
  rcases h.2 with h2 | ⟨g, cap, cur, hv, hg, hh, r⟩
  · exact Or.inl h2
  · exact Or.inr ⟨g, cap, cur, hv, hg, by rw [hb.block g (Array.getElem?_eq_some_iff.1 hh).1]; exact hh, r⟩
theorem OwnI.mono {w : World} {base base' : Nat} {v : Value} {ns : List Int} (h : OwnI w base v ns) (hb : base' ≤ base) : OwnI w base' v ns := Joins.ownsRow_le h hb
theorem OwnI.nil (w : World) (base : Nat) : OwnI w base (.slice none 0 0) [] := World.ownsRow_nil _ _ _ _
theorem intsV_snoc (ns : List Int) (n : Int) : intsV (ns ++ [n]) = intsV ns ++ [.int .i64 n] := by simp [intsV]

/-- a list of the call's own and a bool handed back -/
def SaysL (ns : List Int) (ok : Bool) (w : World) (e : Ending) (w' : World) : Prop := ∃ v, e = .returned (.tuple #[v, .bool ok]) ∧ OwnI w' w.heap.size v ns ∧ Below w.heap.size w w'

theorem rl_none {s : ByteArray} (h : s = ⟨#[110, 111, 110, 101]⟩) : rlN s = [] ∧ rlB s = true := by
  have e : isNone s = true := decide_eq_true h
  unfold rlN rlB
  rw [e]
  exact ⟨rfl, rfl⟩
theorem rl_no {s : ByteArray} (h : ¬ s = ⟨#[110, 111, 110, 101]⟩) (h2 : okL (pieces s) = false) : rlN s = [] ∧ rlB s = false := by
  have e : isNone s = false := decide_eq_false h
  unfold rlN rlB
  rw [e, h2]
  exact ⟨rfl, rfl⟩
theorem rl_yes {s : ByteArray} (h : ¬ s = ⟨#[110, 111, 110, 101]⟩) (h2 : okL (pieces s) = true) : rlN s = vals (pieces s) ∧ rlB s = true := by
  have e : isNone s = false := decide_eq_false h
  unfold rlN rlB
  rw [e, h2]
  exact ⟨rfl, rfl⟩
theorem piece_size {s : ByteArray} (hs : s.size ≤ 1048576) : ∀ p ∈ pieces s, p.size ≤ 1048576 := by
  have key : ∀ (l acc : List UInt8), ∀ q ∈ cutA acc l, q.length ≤ acc.length + l.length := by
    intro l
    induction l with
    | nil => intro acc q hq; rw [cutA, List.mem_singleton] at hq; subst hq; simp
    | cons c r ih =>
      intro acc q hq
      rw [cutA] at hq
      split at hq
      · rcases List.mem_cons.1 hq with rfl | hq
        · simp
        · have := ih [] q hq; simp at this ⊢; omega
      · have := ih _ q hq; simp at this ⊢; omega
  intro p hp
  unfold pieces at hp
  obtain ⟨l, hl, rfl⟩ := List.mem_map.1 hp
  have := key _ _ l hl
  rw [toL_len] at this
  show l.toArray.size ≤ _
  simp at this ⊢; omega

set_option maxHeartbeats 2000000 in
set_option maxRecDepth 100000 in
theorem l01Numbers_any (s : ByteArray) (w : World) (hs : s.size ≤ 1048576) : Calls Tryd.prog 29 #[.string s] w (SaysL (rlN s) (rlB s) w) := by
  by_cases hn : s = ⟨#[110, 111, 110, 101]⟩
  · obtain ⟨e1, e2⟩ := rl_none hn
    rw [e1, e2]
    subst hn
    go_enter Tryd.func29, Tryd.ntmps29
    go_wp2
    go_ret2
    exact ⟨_, rfl, World.ownsRow_lit (base := w.heap.size) (e := 2) (size := 1) w #[] 0 (Nat.le_refl _) (by unfold maxLen; omega) rfl, Joins.below_alloc1 _ _⟩
  · obtain ⟨i0, hi, hz0, hz1, hz2⟩ := info_parts infoI64
    have hne : (s.toList == [110, 111, 110, 101]) = false := by
      have := text_ne hn
      rwa [show (⟨#[110, 111, 110, 101]⟩ : ByteArray).toList = [110, 111, 110, 101] from by rw [ByteArray.toList_eq]] at this
    have C := Lib.hid (fun W => l01Cut_any s W hs)
    unfold SaysCut at C
    have HNo : Hid (okL (pieces s) = false → rlN s = [] ∧ rlB s = false) := rl_no hn
    have HYes : Hid (okL (pieces s) = true → rlN s = vals (pieces s) ∧ rlB s = true) := rl_yes hn
    have HPz := Lib.hid (piece_size hs)
    clear hn
    obtain ⟨ps, hps⟩ : ∃ p, pieces s = p := ⟨_, rfl⟩
    rw [hps] at C HNo HYes HPz
    clear hps
    by_cases hlong : 300 < ps.length
    · have H1 := Lib.hid (HNo.out (okL_long hlong))
      obtain ⟨n, hnn⟩ : ∃ n, ps.length = n := ⟨_, rfl⟩
      have HN := Lib.hid hnn
      rw [hnn] at hlong
      have kn : (300 : Int) < (n : Int) := by omega
      clear hnn HNo HYes HPz
      go_enter Tryd.func29, Tryd.ntmps29
      go_wp2_with fail
      refine (C.out _).mono ?_
      rintro e w1 ⟨v, rfl, hop, hb⟩
      have hsl := hop.sl
      have hf : ∃ ao cap, v = .slice ao n cap := by
        rcases hsl with ⟨ao, cap, rfl, h0⟩ | ⟨b, off, cap, rfl, _⟩
        · rw [h0] at HN; exact ⟨ao, cap, by rw [← HN.out]; rfl⟩
        · exact ⟨_, _, by rw [HN.out]⟩
      obtain ⟨ao, cap, rfl⟩ := hf
      have HB := Lib.hid ((Joins.below_alloc1 w (.cells #[] 2)).trans (hb.mono (by simp)))
      clear hsl hb hop
      go_wp2_with fail
      go_ret2
      rw [H1.out.1, H1.out.2]
      exact ⟨_, rfl, OwnI.nil _ _, HB.out⟩
    · have CV : Hid (∀ p ∈ ps, ∀ W, Calls Tryd.prog 27 #[.string p] W (SaysRead (toL p) W)) := fun p hp W => l01Value_any p W (HPz.out p hp)
      unfold SaysRead at CV
      have HBad : Hid (∀ k, k < ps.length → rd (toL (ps.getD k ByteArray.empty)) = none → rlN s = [] ∧ rlB s = false) := fun k h1 h2 => HNo.out (okL_no h1 h2)
      have HGood : Hid ((∀ i, i < ps.length → ∃ z, rd (toL (ps.getD i ByteArray.empty)) = some z) → rlN s = vals ps ∧ rlB s = true) := fun h => HYes.out (okL_yes (by omega) h)
      have HTake : Hid (∀ k z, k < ps.length → rd (toL (ps.getD k ByteArray.empty)) = some z → vals (ps.take (k + 1)) = vals (ps.take k) ++ [z]) := fun k z h1 h2 => vals_take h1 h2
      have HMem : Hid (∀ k, k < ps.length → ps.getD k ByteArray.empty ∈ ps) := fun k h => by
        rw [List.getD_eq_getElem?_getD, List.getElem?_eq_getElem h]; exact List.getElem_mem h
      have HVl : Hid (∀ k, k ≤ ps.length → (vals (ps.take k)).length = k) := fun k h => by
        show (vals (ps.take k)).length = k
        unfold vals; rw [List.length_map, List.length_take]; omega
      have HAll : Hid (vals (ps.take ps.length) = vals ps) := by show _ = _; rw [List.take_length]
      have hl0 : World.ownsRow (w.alloc (.cells #[] 2)) w.heap.size 2 1 (.slice (some ⟨w.heap.size, 0, none⟩) 0 0) 0 (intsV []) := World.ownsRow_lit (base := w.heap.size) (e := 2) (size := 1) w #[] 0 (Nat.le_refl _) (by unfold maxLen; omega) rfl
      have L0 := Lib.hid hl0
      clear HNo HYes HPz hl0
      go_enter Tryd.func29, Tryd.ntmps29
      go_wp2_with fail
      refine (C.out _).mono ?_
      rintro e w1 ⟨v, rfl, hop, hb⟩
      have hsl := hop.sl
      have L1 : Hid (World.ownsRow w1 w.heap.size 2 1 (.slice (some ⟨w.heap.size, 0, none⟩) 0 0) 0 (intsV [])) := OwnI.below (ns := []) L0.out hb
      have B1 := Lib.hid ((Joins.below_alloc1 w (.cells #[] 2)).trans (hb.mono (by simp)))
      have P1 := Lib.hid (hop.mono (base' := w.heap.size) (by simp))
      have hf : ∃ ao cap, v = .slice ao ps.length cap := by
        rcases hsl with ⟨ao, cap, rfl, h0⟩ | ⟨b, off, cap, rfl, _⟩
        · exact ⟨ao, cap, by rw [h0]; rfl⟩
        · exact ⟨_, _, rfl⟩
      obtain ⟨ao, cap, rfl⟩ := hf
      clear hsl hb L0 hop
      obtain ⟨n, hnn⟩ : ∃ n, ps.length = n := ⟨_, rfl⟩
      rw [hnn] at hlong HBad HGood HTake HMem HVl HAll P1 ⊢
      have HN := Lib.hid hnn
      clear hnn
      have kn : ¬ (300 : Int) < (n : Int) := by omega
      go_wp2_with fail
      go_loopw [4, 6] (fun ov iv wr => ∃ (u : Value) (k : Nat), u = ov ∧ k ≤ n ∧ iv = .int .i64 k ∧ Hid (∀ j, j < k → ∃ z, rd (toL (ps.getD j ByteArray.empty)) = some z) ∧ wr.ownsRow w.heap.size 2 1 u k (intsV (vals (ps.take k))) ∧ Below w.heap.size w wr ∧ OwnP wr w.heap.size (.slice ao n cap) ps) (fun _ iv _ => n - (intOf iv).toNat)
      case atStart => exact ⟨_, 0, rfl, Nat.zero_le _, rfl, fun j h => by omega, L1.out, B1.out, P1.out⟩
      case round =>
        clear L1 P1
        obtain ⟨u, k, rfl, hk, rfl, HK, hown, hbel, hop⟩ := hrel
        by_cases hlt : k < n
        · have hsl := hop.sl
          have hcell : ∃ b off, ao = some ⟨b, off, none⟩ ∧ wr.cell? ⟨b, off + k, none⟩ = some (.string (ps.getD k ByteArray.empty)) := by
            rcases hsl with ⟨ao', cap', e, h0⟩ | ⟨b, off, cap', e, _, hst⟩
            · rw [h0] at HN; have := HN.out; simp at this; omega
            · simp only [Value.slice.injEq] at e
              exact ⟨b, off, e.1, hst.2 k (by rw [HN.out]; exact hlt)⟩
          obtain ⟨b, off, rfl, hcell⟩ := hcell
          have hbad := HBad.out k hlt
          have htk := fun z => HTake.out k z hlt
          have hCV := CV.out _ (HMem.out k hlt)
          have hvl := HVl.out k hk
          have hst : ∀ z, rd (toL (ps.getD k ByteArray.empty)) = some z → ∀ j, j < k + 1 → ∃ z, rd (toL (ps.getD j ByteArray.empty)) = some z := fun z h j hj => by
            by_cases e : j = k
            · subst e; exact ⟨z, h⟩
            · exact HK.out j (by omega)
          have HST := Lib.hid hst
          obtain ⟨x, hx⟩ : ∃ x, ps.getD k ByteArray.empty = x := ⟨_, rfl⟩
          rw [hx] at hcell hbad htk hCV HST
          have HBADk := Lib.hid hbad
          have HTK := Lib.hid htk
          have HCV := Lib.hid hCV
          have HO := Lib.hid hown
          have HB := Lib.hid hbel
          have HP1 := Lib.hid hop
          have hs1 := hbel.size
          have kl : (k : Int) < (n : Int) := by omega
          clear hx hbad htk hCV hown hbel hop hst hsl
          go_wp2_with fail
          refine (HCV.out _).mono ?_
          rintro e w2 ⟨z, ok, rfl, hr, hb2⟩
          have B2 := Lib.hid (HB.out.trans (hb2.mono hs1))
          have P2 := Lib.hid (HP1.out.below hb2)
          have O2 : Hid (w2.ownsRow w.heap.size 2 1 u k (intsV (vals (ps.take k)))) := by
            have := OwnI.below (ns := vals (ps.take k)) (by unfold OwnI; rw [hvl]; exact HO.out) hb2
            unfold OwnI at this; rwa [hvl] at this
          have hs3 := B2.out.size
          clear hb2 HO hcell
          rcases hr.rd with ⟨rfl, h2⟩ | ⟨rfl, h2⟩
          · have HT2 := Lib.hid (HTK.out z h2)
            have HS2 := Lib.hid (HST.out z h2)
            clear h2 hr HTK HST HBADk HCV
            go_wp2_with (at_builtin; refine wpList_append_own _ rfl _ _ 24 rfl w.heap.size 2 i0 (.int .i64 0) 1 8 Tryd.underlying24 hi hz0 hz1 hz2 rfl (by decide) _ _ _ rfl (O2.out.alloc _) ⟨w2.heap.size, 0, none⟩ 1 1 [.int .i64 z] rfl rfl (cell_one_new _ _ _) (by intro u hu; simp at hu; subst hu; rfl) (by unfold maxLen; omega) (by omega) (by simp; omega) ?_)
            intro v' w3 hown' hgr _
            have o1 := O2.out.alloc (.cells #[.int .i64 z] 2)
            have B3 : Hid (Below w.heap.size w w3) := (B2.out.alloc hs3 _).grown hgr (by simp; omega) (fun k hk => (o1.lt k hk).1)
            have P3 := Lib.hid (show OwnP w3 w.heap.size (.slice (some ⟨b, off, none⟩) n cap) ps from row_far (World.ownsRow.alloc P2.out _) o1 (by decide) hgr)
            have O3 : Hid (w3.ownsRow w.heap.size 2 1 v' (k + 1) (intsV (vals (ps.take (k + 1))))) := by
              show World.ownsRow _ _ _ _ _ _ _
              rw [HT2.out, intsV_snoc]; exact hown'
            clear hown' hgr o1
            go_wp2
            go_roundw
            case rel => exact ⟨_, k + 1, rfl, by omega, by go_num, HS2.out, O3.out, B3.out, P3.out⟩
            case measure => simp [intOf]; omega
          · have H1 := Lib.hid (HBADk.out h2)
            clear h2 hr HTK HST HBADk HCV
            go_wp2_with fail
            go_ret2
            rw [H1.out.1, H1.out.2]
            exact ⟨_, rfl, OwnI.nil _ _, B2.out⟩
        · obtain rfl : k = n := by omega
          have H1 := Lib.hid (HGood.out HK.out)
          have HO : Hid (OwnI wr w.heap.size u (vals ps)) := by
            show World.ownsRow _ _ _ _ _ _ _
            have := HVl.out k hk
            rw [HAll.out] at this hown
            rw [this]; exact hown
          have HB := Lib.hid hbel
          clear hown hbel hop
          go_wp2_with fail
          go_ret2
          rw [H1.out.1, H1.out.2]
          exact ⟨_, rfl, HO.out, HB.out⟩
end Go.Proofs.YtiamjdbfoibnnaaDoor
