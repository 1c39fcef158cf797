/- Contracts of single functions, and plain lemmas, on which the exact laws of this seat rest; each holds under the conditions that it states. -/
import Derived.Test.YtlmmeefcnjcceaaDoorOg
import Derived.Lib.BufferMore
namespace Go.Proofs.YtlmmeefcnjcceaaDoor
set_option linter.unusedVariables false
set_option linter.unusedSimpArgs false
open Go.RowKit Go.Maps

/-- the set of the first k steps -/
def HasK (X Y : Int) (s : ByteArray) (k : Nat) (has : Value → Bool) : Prop := ∀ x y d : Int, has (stV x y d) = true ↔ ∃ j : Nat, j < k ∧ px X s j = x ∧ py Y s j = y ∧ wy s j = d
theorem HasK.zero (X Y : Int) (s : ByteArray) : HasK X Y s 0 (fun _ => false) := fun x y d => ⟨fun h => (by cases h), fun ⟨j, h, _⟩ => absurd h (Nat.not_lt_zero j)⟩
theorem stV_inj {x y d x' y' d' : Int} (h : stV x y d = stV x' y' d') : x = x' ∧ y = y' ∧ d = d' := by
  unfold stV at h
  simpa using h
theorem HasK.snoc {X Y : Int} {s : ByteArray} {k : Nat} {has : Value → Bool} (h : HasK X Y s k has) : HasK X Y s (k + 1) (fun u => @decide (u = stV (px X s k) (py Y s k) (wy s k)) (Classical.propDecidable _) || has u) := fun x y d => by
  rw [Bool.or_eq_true, h x y d, @decide_eq_true_iff _ (Classical.propDecidable _)]
  constructor
  · rintro (e | ⟨j, hj, e⟩)
    · obtain ⟨h1, h2, h3⟩ := stV_inj e
      exact ⟨k, by omega, h1.symm, h2.symm, h3.symm⟩
    · exact ⟨j, by omega, e⟩
  · rintro ⟨j, hj, h1, h2, h3⟩
    by_cases e : j = k
    · subst e; left; rw [h1, h2, h3]
    · right; exact ⟨j, by omega, h1, h2, h3⟩
theorem HasK.has {X Y : Int} {s : ByteArray} {k : Nat} {has : Value → Bool} (h : HasK X Y s k has) (hd : ∃ i : Nat, i < k ∧ px X s i = px X s k ∧ py Y s i = py Y s k ∧ wy s i = wy s k) : has (stV (px X s k) (py Y s k) (wy s k)) = true := (h _ _ _).2 hd
theorem HasK.not {X Y : Int} {s : ByteArray} {k : Nat} {has : Value → Bool} (h : HasK X Y s k has) (hd : ¬ ∃ i : Nat, i < k ∧ px X s i = px X s k ∧ py Y s i = py Y s k ∧ wy s i = wy s k) : has (stV (px X s k) (py Y s k) (wy s k)) = false := by
  cases e : has (stV (px X s k) (py Y s k) (wy s k)) with
  | false => rfl
  | true => exact absurd ((h _ _ _).1 e) hd
theorem not_ok_step {X Y : Int} {s : ByteArray} {k : Nat} (hk : k < s.size) (h : ¬ (0 ≤ wy s k ∧ corn (px X s k) (py Y s k) ∧ ¬ ∃ i : Nat, i < k ∧ px X s i = px X s k ∧ py Y s i = py Y s k ∧ wy s i = wy s k)) : ¬ OKb X Y s := fun ⟨_, _, hg, _⟩ => h ⟨(hg k hk).1, (hg k hk).2.1, fun ⟨i, hi, e⟩ => (hg k hk).2.2 i hi e⟩

/-- what routeOf says -/
def SaysRt (X Y : Int) (s : ByteArray) (w : World) (e : Ending) (w' : World) : Prop :=
  (OKb X Y s ∧ ∃ ao n cap, e = .returned (.tuple #[.slice ao n cap, .bool true]) ∧ OwnR X Y s w' w.heap.size (.slice ao n cap) s.size ∧ Below w.heap.size w w')
  ∨ (¬ OKb X Y s ∧ e = .returned (.tuple #[.slice none 0 0, .bool false]) ∧ Below w.heap.size w w')

theorem wf64 {x : Int} (h1 : -9223372036854775808 ≤ x) (h2 : x ≤ 9223372036854775807) : (Lit.int .i64 x).wf = true := by
  have e1 : IntKind.i64.min = -9223372036854775808 := by decide
  have e2 : IntKind.i64.max = 9223372036854775807 := by decide
  simp [Lit.wf, e1, e2]
  omega

set_option maxHeartbeats 4000000 in
set_option maxRecDepth 100000 in
theorem routeOf_len (X Y : Int) (s : ByteArray) (w : World) (hs : s.size ≤ 1048576) (hl : s.size < 4 ∨ 600 < s.size) :
    Calls Tryd.prog 37 #[.agg #[.int .i64 X, .int .i64 Y, .string s]] w (SaysRt X Y s w) := by
  have HN : Hid (¬ OKb X Y s) := fun ⟨h1, h2, _⟩ => by omega
  rcases hl with hl | hl
  · have k1 : (s.size : Int) < 4 := by omega
    clear hl
    go_enter Tryd.func37, Tryd.ntmps37
    go_wp2
    go_ret2
    exact Or.inr ⟨HN.out, rfl, Joins.below_alloc1 _ _⟩
  · have k1 : ¬ (s.size : Int) < 4 := by omega
    have k2 : (600 : Int) < s.size := by omega
    clear hl
    go_enter Tryd.func37, Tryd.ntmps37
    go_wp2
    go_ret2
    exact Or.inr ⟨HN.out, rfl, Joins.below_alloc1 _ _⟩

/-- a row of the call's own is no map -/
theorem own_ne_map {P : Program} {k e : TypeId} {w : World} {base n s b m : Nat} {t : TypeId} {v : Value} {xs : List Value} {has : Value → Bool} (h : w.ownsRow base t s v n xs) (hs : SetIn P k e w b m has) : v.ownBlock ≠ some b := by
  rcases h.2 with ⟨hv, _⟩ | ⟨g, cap, cur, hv, _, hg1, _⟩
  · subst hv; simp [Value.ownBlock]
  · subst hv
    simp only [Value.ownBlock]
    intro e1
    have e1 := Option.some.inj e1
    subst e1
    obtain ⟨D, ⟨es, clock, h1, _⟩, _⟩ := hs
    rw [hg1] at h1
    cases h1
theorem own_map {P : Program} {k e : TypeId} {w w' : World} {base n s b m : Nat} {t : TypeId} {v : Value} {xs : List Value} {has : Value → Bool} (h : w.ownsRow base t s v n xs) (hs : SetIn P k e w b m has) (hg : w.grownBy w' (some b)) : w'.ownsRow base t s v n xs := by
  refine h.kept hg ?_
  rcases h.2 with ⟨hv, _⟩ | ⟨g, cap, cur, hv, _, hg1, _⟩
  · left; subst hv; rfl
  · right; exact own_ne_map h hs
/-- a variable is no map -/
theorem var_ne_map {P : Program} {k e : TypeId} {w : World} {b m B : Nat} {cs : Array Value} {t : TypeId} {has : Value → Bool} (h : w.heap[B]? = some (.cells cs t (0, 0))) (hs : SetIn P k e w b m has) : b ≠ B := by
  intro e1
  subst e1
  obtain ⟨D, ⟨es, clock, h1, _⟩, _⟩ := hs
  rw [h] at h1
  cases h1
theorem var_map {P : Program} {k e : TypeId} {w w' : World} {b m B : Nat} {cs : Array Value} {t : TypeId} {has : Value → Bool} (h : w.heap[B]? = some (.cells cs t (0, 0))) (hs : SetIn P k e w b m has) (hg : w.grownBy w' (some b)) : w'.heap[B]? = some (.cells cs t (0, 0)) :=
  (hg.block B (Array.getElem?_eq_some_iff.1 h).1 (fun e1 => var_ne_map h hs (Option.some.inj e1).symm)).trans h

set_option maxHeartbeats 4000000 in
set_option maxRecDepth 100000 in
theorem routeOf_mid (X Y : Int) (s : ByteArray) (w : World) (h4 : 4 ≤ s.size) (h6 : s.size ≤ 600) (hm : Moves w) :
    Calls Tryd.prog 37 #[.agg #[.int .i64 X, .int .i64 Y, .string s]] w (SaysRt X Y s w) := by
  obtain ⟨i0, hi, hz0, hz1, hz2⟩ := info_parts infoSt
  have hmm := @run_makeMap Tryd.prog
  have HMv := Lib.hid (fun W (hb : Below w.heap.size w W) => hm.below hb)
  have k1 : ¬ (s.size : Int) < 4 := by omega
  have k2 : ¬ (600 : Int) < s.size := by omega
  have I0 : Hid (SetIn Tryd.prog 67 4 (((w.alloc (.cells #[.int .i64 X, .int .i64 Y, .string s] 30)).alloc (.map #[] 0)).alloc (.cells #[.int .i64 X, .int .i64 Y] 28)) (w.heap.size + 1) 0 (fun _ => false)) := by
    have := SetIn.made (P := Tryd.prog) (k := 67) (e := 4) (w.alloc (.cells #[.int .i64 X, .int .i64 Y, .string s] 30))
    rw [World.size_alloc] at this
    exact this.below (Joins.below_alloc1 _ _)
  have I1 : Hid ((((w.alloc (.cells #[.int .i64 X, .int .i64 Y, .string s] 30)).alloc (.map #[] 0)).alloc (.cells #[.int .i64 X, .int .i64 Y] 28)).heap[w.heap.size + 1 + 1]? = some (.cells #[.int .i64 X, .int .i64 Y] 28 (0, 0))) := by
    have := heap_alloc_last ((w.alloc (.cells #[.int .i64 X, .int .i64 Y, .string s] 30)).alloc (.map #[] 0)) (.cells #[.int .i64 X, .int .i64 Y] 28)
    simp only [World.size_alloc] at this
    exact this
  have I2 : Hid ((((w.alloc (.cells #[.int .i64 X, .int .i64 Y, .string s] 30)).alloc (.map #[] 0)).alloc (.cells #[.int .i64 X, .int .i64 Y] 28)).heap[w.heap.size]? = some (.cells #[.int .i64 X, .int .i64 Y, .string s] 30 (0, 0))) := by
    show _ = _
    rw [Below.heap_alloc _ _ _ (by simp; omega), Below.heap_alloc _ _ _ (by simp)]
    exact heap_alloc_last w _
  have I3 := Lib.hid (Joins.below_alloc3 w (.cells #[.int .i64 X, .int .i64 Y, .string s] 30) (.map #[] 0) (.cells #[.int .i64 X, .int .i64 Y] 28))
  clear hm
  go_enter Tryd.func37, Tryd.ntmps37
  go_wp2
  go_loopw [4, 26] (fun rv iv wr => ∃ (u : Value) (k : Nat), u = rv ∧ iv = .int .i64 k ∧ k ≤ s.size ∧ Hid (Good X Y s k) ∧ Hid (OwnR X Y s wr w.heap.size u k) ∧ Hid (∃ has, SetIn Tryd.prog 67 4 wr (w.heap.size + 1) k has ∧ HasK X Y s k has) ∧ Hid (wr.heap[w.heap.size + 1 + 1]? = some (.cells #[.int .i64 (px X s k), .int .i64 (py Y s k)] 28 (0, 0))) ∧ Hid (wr.heap[w.heap.size]? = some (.cells #[.int .i64 X, .int .i64 Y, .string s] 30 (0, 0))) ∧ Hid (Below w.heap.size w wr)) (fun _ iv _ => s.size - (intOf iv).toNat)
  case atStart => exact ⟨_, 0, rfl, rfl, Nat.zero_le _, Good.zero X Y s, World.ownsRow_nil _ _ _ _, ⟨_, I0.out, HasK.zero X Y s⟩, I1.out, I2.out, I3.out⟩
  case round =>
    clear I0 I1 I2 I3 hmm
    obtain ⟨u, k, rfl, rfl, hk, HG, HO, HS, HA, HBo, HBe⟩ := hrel
    have hs0 := HBe.out.size
    have hlA := (Array.getElem?_eq_some_iff.1 HA.out).1
    by_cases hlt : k < s.size
    · have klt : (k : Int) < (s.size : Int) := by omega
      have cs0 : wr.cell? ⟨w.heap.size, 2, none⟩ = some (.string s) := by rw [Joins.cell_of_block HBo.out 2]; rfl
      have ca0 : wr.cell? ⟨w.heap.size + 1 + 1, 0, none⟩ = some (.int .i64 (px X s k)) := by rw [Joins.cell_of_block HA.out 0]; rfl
      have ca1 : wr.cell? ⟨w.heap.size + 1 + 1, 1, none⟩ = some (.int .i64 (py Y s k)) := by rw [Joins.cell_of_block HA.out 1]; rfl
      have CI := Lib.hid (idx_byte s k hlt wr)
      have NO := Lib.hid (@not_ok_step X Y s k hlt)
      have GS := Lib.hid (@Good.snoc X Y s k HG.out)
      have RS := Lib.hid (rt_snoc X Y s k)
      have PX : Hid (px X s (k + 1) = px X s k + dX (wy s k)) := rfl
      have PY : Hid (py Y s (k + 1) = py Y s k + dY (wy s k)) := rfl
      have kw := wy_range s k
      obtain ⟨has, S0, HH⟩ := HS.out
      have HHs := Lib.hid HH.snoc
      have HHy := Lib.hid HH.has
      have HHn := Lib.hid HH.not
      clear HH
      obtain ⟨x, hx⟩ : ∃ x, px X s k = x := ⟨_, rfl⟩
      obtain ⟨y, hy⟩ : ∃ x, py Y s k = x := ⟨_, rfl⟩
      obtain ⟨d, hd⟩ : ∃ x, wy s k = x := ⟨_, rfl⟩
      have HXk := Lib.hid hx
      have HYk := Lib.hid hy
      have HDk := Lib.hid hd
      rw [hx] at ca0 HA NO GS RS PX HHs HHy HHn
      rw [hy] at ca1 HA NO GS RS PY HHs HHy HHn
      rw [hd] at CI NO GS RS PX PY HHs HHy HHn kw
      have S0' := Lib.hid S0
      have hl0 : w.heap.size < wr.heap.size := by omega
      clear hx hy hd S0 HS hk
      go_wp2_with fail
      refine CI.out.mono ?_
      rintro e w' ⟨rfl, rfl⟩
      by_cases hw : d < 0
      · have HN := Lib.hid (NO.out (fun h => absurd h.1 (by omega)))
        have B1 := Lib.hid (HBe.out.alloc hs0 (.cells #[.int .i64 x, .int .i64 y, .int .i64 d] 67))
        go_wp2_with fail
        go_ret2
        exact Or.inr ⟨HN.out, rfl, B1.out⟩
      · have ha1 := heap_alloc_last wr (.cells #[.int .i64 x, .int .i64 y, .int .i64 d] 67)
        have b1 := Joins.below_alloc1 wr (.cells #[.int .i64 x, .int .i64 y, .int .i64 d] 67)
        have HQ1 := Lib.hid ha1
        have Hb1 := Lib.hid b1
        have hbl1 : wr.heap.size < (wr.alloc (.cells #[.int .i64 x, .int .i64 y, .int .i64 d] 67)).heap.size := by simp
        clear ha1 b1
        go_wp2_with fail
        refine (isCorner_any x y _).mono ?_
        rintro e w2 ⟨rfl, hb2⟩
        have Hb2 : Hid (Below wr.heap.size wr w2) := Hb1.out.trans (hb2.mono (Nat.le_of_lt hbl1))
        have Q2 := Lib.hid ((hb2.block wr.heap.size hbl1).trans HQ1.out)
        have hl2 : wr.heap.size < w2.heap.size := Nat.lt_of_lt_of_le hbl1 hb2.size
        have B2 := Lib.hid (HBe.out.trans (Hb2.out.mono hs0))
        have O2 : Hid (OwnR X Y s w2 w.heap.size u k) := own_below HO.out Hb2.out
        have S2 := Lib.hid (S0'.out.below Hb2.out)
        have A2 := Lib.hid ((Hb2.out.block _ hlA).trans HA.out)
        have D2 := Lib.hid ((Hb2.out.block _ hl0).trans HBo.out)
        have hs2 := B2.out.size
        clear hb2 hbl1
        by_cases hc : corn x y
        · have hcb : cornB x y = true := decide_eq_true hc
          rw [hcb]
          obtain ⟨hc1, hc2, hc3, hc4⟩ := hc
          obtain ⟨kl, hkl⟩ := keyStep x y d (wf64 (by omega) (by omega)) (wf64 (by omega) (by omega)) (wf64 (by omega) (by omega))
          have hrun := S2.out.look lawStep Tryd.underlying107 Tryd.underlying4 (zeroBool _) hkl
          have cq0 : w2.cell? ⟨wr.heap.size, 0, none⟩ = some (.int .i64 x) := by rw [Joins.cell_of_block Q2.out 0]; rfl
          have cq1 : w2.cell? ⟨wr.heap.size, 1, none⟩ = some (.int .i64 y) := by rw [Joins.cell_of_block Q2.out 1]; rfl
          have cq2 : w2.cell? ⟨wr.heap.size, 2, none⟩ = some (.int .i64 d) := by rw [Joins.cell_of_block Q2.out 2]; rfl
          by_cases hdup : ∃ i : Nat, i < k ∧ px X s i = x ∧ py Y s i = y ∧ wy s i = d
          · rw [HHy.out hdup] at hrun
            unfold stV at hrun
            have HN := Lib.hid (NO.out (fun h => h.2.2 hdup))
            clear hdup hcb
            go_wp2_with fail
            go_ret2
            exact Or.inr ⟨HN.out, rfl, B2.out⟩
          · rw [HHn.out hdup] at hrun
            unfold stV at hrun
            have HG2 := Lib.hid (GS.out (by omega) ⟨hc1, hc2, hc3, hc4⟩ (fun i hi e => hdup ⟨i, hi, e⟩))
            have Hkl := Lib.hid hkl
            clear hdup hcb hkl
            go_wp2_with (at_mapUpdate; refine wpList_put_set rfl _ _ _ rfl lawStep Tryd.underlying107 Tryd.underlying4 (w.heap.size + 1) k has rfl S2.out (by unfold maxLen; omega) (stV x y d) kl rfl rfl Hkl.out ?_)
            intro w3 s3 hg3
            have O3 : Hid (OwnR X Y s w3 w.heap.size u k) := own_map O2.out S2.out hg3
            have A3 := Lib.hid (var_map A2.out S2.out hg3)
            have D3 := Lib.hid (var_map D2.out S2.out hg3)
            have Q3 := Lib.hid (var_map Q2.out S2.out hg3)
            have B3 := Lib.hid (B2.out.grown hg3 hs2 (fun j hj => by cases hj; omega))
            have S3 : Hid (∃ has, SetIn Tryd.prog 67 4 w3 (w.heap.size + 1) (k + 1) has ∧ HasK X Y s (k + 1) has) := ⟨_, s3, HHs.out⟩
            have hs3 := B3.out.size
            have hl3 := (Array.getElem?_eq_some_iff.1 Q3.out).1
            have hne : Hid (∀ j, u.ownBlock = some j → j < wr.heap.size) := fun j hj => (HO.out.lt j hj).2
            have CE : Hid (∀ W, Moves W → Calls Tryd.prog 67 #[.agg #[.int .i64 x, .int .i64 y, .int .i64 d]] W (fun e w' => e = .returned (.agg #[.int .i64 (x + dX d), .int .i64 (y + dY d)]) ∧ Below W.heap.size W w')) := fun W hW => by
              obtain ⟨n, rfl⟩ := Int.eq_ofNat_of_zero_le hw
              exact end_any x y n W (by omega) (by omega) (by omega) hW
            clear cq0 cq1 cq2 hrun s3 hg3 S2 S0' HHs HHy HHn O2 HO
            have cq0 : w3.cell? ⟨wr.heap.size, 0, none⟩ = some (.int .i64 x) := by rw [Joins.cell_of_block Q3.out 0]; rfl
            have cq1 : w3.cell? ⟨wr.heap.size, 1, none⟩ = some (.int .i64 y) := by rw [Joins.cell_of_block Q3.out 1]; rfl
            have cq2 : w3.cell? ⟨wr.heap.size, 2, none⟩ = some (.int .i64 d) := by rw [Joins.cell_of_block Q3.out 2]; rfl
            go_wp2_with (at_builtin; refine wpList_append_own _ rfl _ _ 60 rfl w.heap.size 67 i0 (.agg #[.int .i64 0, .int .i64 0, .int .i64 0]) 3 24 Tryd.underlying60 hi hz0 hz1 hz2 rfl (by decide) _ _ _ rfl (World.ownsRow.alloc O3.out _) ⟨w3.heap.size, 0, none⟩ 1 1 [.int .i64 x, .int .i64 y, .int .i64 d] rfl rfl (three_cells_new _ _ _ _ _) (by intro u hu; simp at hu; rcases hu with rfl | rfl | rfl <;> rfl) (by unfold maxLen; omega) (by omega) (by simp; omega) ?_)
            intro v' w4 hown' hgr _
            have o1 := World.ownsRow.alloc O3.out (.cells #[.int .i64 x, .int .i64 y, .int .i64 d] 67)
            have O4 : Hid (OwnR X Y s w4 w.heap.size v' (k + 1)) := by
              show World.ownsRow _ _ _ _ _ _ _
              rw [RS.out]; exact hown'
            have B4 := Lib.hid ((B3.out.alloc hs3 (.cells #[.int .i64 x, .int .i64 y, .int .i64 d] 67)).grown hgr (by simp; omega) (fun k hk => (o1.lt k hk).1))
            have al : ∀ {B : Nat} {o : Obj}, w3.heap[B]? = some o → (w3.alloc (.cells #[.int .i64 x, .int .i64 y, .int .i64 d] 67)).heap[B]? = some o := fun {B o} h => (Below.heap_alloc _ _ _ (Array.getElem?_eq_some_iff.1 h).1).trans h
            have A4 := Lib.hid (var_far (al A3.out) o1 (by decide) hgr)
            have D4 := Lib.hid (var_far (al D3.out) o1 (by decide) hgr)
            have Q4 := Lib.hid ((hgr.block wr.heap.size (by simp; omega) (fun e1 => absurd (hne.out _ e1.symm) (Nat.lt_irrefl _))).trans (al Q3.out))
            have S4 : Hid (∃ has, SetIn Tryd.prog 67 4 w4 (w.heap.size + 1) (k + 1) has ∧ HasK X Y s (k + 1) has) := by
              obtain ⟨has, s3, hh⟩ := S3.out
              have s3b := s3.below (Joins.below_alloc1 w3 (.cells #[.int .i64 x, .int .i64 y, .int .i64 d] 67))
              exact ⟨has, s3b.block (hgr.block _ s3b.lt (fun e1 => own_ne_map o1 s3b e1.symm)), hh⟩
            have hs4 := B4.out.size
            have M4 := Lib.hid (HMv.out _ B4.out)
            clear hown' hgr o1 al cq0 cq1 cq2 S3 O3 A3 D3
            have cq0 : w4.cell? ⟨wr.heap.size, 0, none⟩ = some (.int .i64 x) := by rw [Joins.cell_of_block Q4.out 0]; rfl
            have cq1 : w4.cell? ⟨wr.heap.size, 1, none⟩ = some (.int .i64 y) := by rw [Joins.cell_of_block Q4.out 1]; rfl
            have cq2 : w4.cell? ⟨wr.heap.size, 2, none⟩ = some (.int .i64 d) := by rw [Joins.cell_of_block Q4.out 2]; rfl
            go_wp2_with fail
            refine (CE.out _ M4.out).mono ?_
            rintro e w5 ⟨rfl, hb5⟩
            have B5 := Lib.hid (B4.out.trans (hb5.mono hs4))
            have O5 : Hid (OwnR X Y s w5 w.heap.size v' (k + 1)) := own_below O4.out hb5
            have A5 := Lib.hid ((hb5.block _ (Array.getElem?_eq_some_iff.1 A4.out).1).trans A4.out)
            have D5 := Lib.hid ((hb5.block _ (Array.getElem?_eq_some_iff.1 D4.out).1).trans D4.out)
            have S5 : Hid (∃ has, SetIn Tryd.prog 67 4 w5 (w.heap.size + 1) (k + 1) has ∧ HasK X Y s (k + 1) has) := by
              obtain ⟨has, s4, hh⟩ := S4.out
              exact ⟨has, s4.below hb5, hh⟩
            have hs5 := B5.out.size
            clear hb5 cq0 cq1 cq2 S4 O4 A4 D4 Q4
            have ca0 : w5.cell? ⟨w.heap.size + 1 + 1, 0, none⟩ = some (.int .i64 x) := by rw [Joins.cell_of_block A5.out 0]; rfl
            have ca1 : w5.cell? ⟨w.heap.size + 1 + 1, 1, none⟩ = some (.int .i64 y) := by rw [Joins.cell_of_block A5.out 1]; rfl
            have fz0 : w5.frozen? ⟨w.heap.size + 1 + 1, 0, none⟩ = false := by simp [World.frozen?, A5.out]
            have fz1 : w5.frozen? ⟨w.heap.size + 1 + 1, 1, none⟩ = false := by simp [World.frozen?, A5.out]
            have A6 : Hid (((w5.setCell ⟨w.heap.size + 1 + 1, 0, none⟩ (.int .i64 (x + dX d))).setCell ⟨w.heap.size + 1 + 1, 1, none⟩ (.int .i64 (y + dY d))).heap[w.heap.size + 1 + 1]? = some (.cells #[.int .i64 (px X s (k + 1)), .int .i64 (py Y s (k + 1))] 28 (0, 0))) := by
              show _ = _
              rw [PX.out, PY.out]
              exact Lib.heap_setCell_same (i := 1) (Lib.heap_setCell_same (i := 0) A5.out (.int .i64 (x + dX d))) (.int .i64 (y + dY d))
            have O6 : Hid (OwnR X Y s ((w5.setCell ⟨w.heap.size + 1 + 1, 0, none⟩ (.int .i64 (x + dX d))).setCell ⟨w.heap.size + 1 + 1, 1, none⟩ (.int .i64 (y + dY d))) w.heap.size v' (k + 1)) := ownsRow_setCell_other (a := ⟨w.heap.size + 1 + 1, 1, none⟩) (ownsRow_setCell_other (a := ⟨w.heap.size + 1 + 1, 0, none⟩) O5.out (own_ne O5.out A5.out (by decide)) _) (own_ne O5.out A5.out (by decide)) _
            have D6 : Hid (((w5.setCell ⟨w.heap.size + 1 + 1, 0, none⟩ (.int .i64 (x + dX d))).setCell ⟨w.heap.size + 1 + 1, 1, none⟩ (.int .i64 (y + dY d))).heap[w.heap.size]? = some (.cells #[.int .i64 X, .int .i64 Y, .string s] 30 (0, 0))) := (Below.heap_setCell _ _ _ _ (by simp; omega)).trans ((Below.heap_setCell _ _ _ _ (by simp; omega)).trans D5.out)
            have S6 : Hid (∃ has, SetIn Tryd.prog 67 4 ((w5.setCell ⟨w.heap.size + 1 + 1, 0, none⟩ (.int .i64 (x + dX d))).setCell ⟨w.heap.size + 1 + 1, 1, none⟩ (.int .i64 (y + dY d))) (w.heap.size + 1) (k + 1) has ∧ HasK X Y s (k + 1) has) := by
              obtain ⟨has, s5, hh⟩ := S5.out
              exact ⟨has, s5.block ((Below.heap_setCell _ _ _ _ (by simp)).trans (Below.heap_setCell _ _ _ _ (by simp))), hh⟩
            have B6 := Lib.hid ((B5.out.setCell (p := ⟨w.heap.size + 1 + 1, 0, none⟩) (by simp; omega) (.int .i64 (x + dX d))).setCell (p := ⟨w.heap.size + 1 + 1, 1, none⟩) (by simp; omega) (.int .i64 (y + dY d)))
            clear A5 O5 D5 S5
            go_wp2
            go_roundw
            case rel => exact ⟨_, k + 1, rfl, by go_num, by omega, HG2.out, O6.out, S6.out, A6.out, D6.out, B6.out⟩
            case measure => simp [intOf]; omega
        · have hcb : cornB x y = false := decide_eq_false hc
          rw [hcb]
          have HN := Lib.hid (NO.out (fun h => hc h.2.1))
          clear hc hcb
          go_wp2_with fail
          go_ret2
          exact Or.inr ⟨HN.out, rfl, B2.out⟩
    · obtain rfl : k = s.size := by omega
      have ca0 : wr.cell? ⟨w.heap.size + 1 + 1, 0, none⟩ = some (.int .i64 (px X s s.size)) := by rw [Joins.cell_of_block HA.out 0]; rfl
      have ca1 : wr.cell? ⟨w.heap.size + 1 + 1, 1, none⟩ = some (.int .i64 (py Y s s.size)) := by rw [Joins.cell_of_block HA.out 1]; rfl
      have cs0 : wr.cell? ⟨w.heap.size, 0, none⟩ = some (.int .i64 X) := by rw [Joins.cell_of_block HBo.out 0]; rfl
      have cs1 : wr.cell? ⟨w.heap.size, 1, none⟩ = some (.int .i64 Y) := by rw [Joins.cell_of_block HBo.out 1]; rfl
      obtain ⟨x, hx⟩ : ∃ x, px X s s.size = x := ⟨_, rfl⟩
      obtain ⟨y, hy⟩ : ∃ x, py Y s s.size = x := ⟨_, rfl⟩
      rw [hx] at ca0
      rw [hy] at ca1
      have HXk := Lib.hid hx
      have HYk := Lib.hid hy
      clear hx hy
      by_cases hxy : x = X ∧ y = Y
      · obtain ⟨e1, e2⟩ := hxy
        rcases Joins.ownsRow_forms HO.out with ⟨_, h0⟩ | ⟨g, cap, rfl⟩
        · omega
        have CT := Lib.hid (turns_any X Y s g cap wr (by omega) h6 (OwnR.at HO.out) (fun j hj => (HG.out j hj).1))
        have HYes : Hid (hasTr s 2 s.size = false → OKb X Y s) := fun hh => ⟨h4, h6, HG.out, HXk.out.trans e1, HYk.out.trans e2, fun k hk e => by
          rw [hasTr_yes hk e] at hh; cases hh⟩
        have HNo : Hid (hasTr s 2 s.size = true → ¬ OKb X Y s) := fun hh ⟨_, _, _, _, _, h7⟩ => by
          rw [hasTr_no h7] at hh; cases hh
        go_wp2_with fail
        refine CT.out.mono ?_
        rintro e w2 ⟨b, cap2, rfl, ho2, hb2⟩
        have hcl : Hid (∀ k, k < s.size → w2.cell? ⟨b, k, none⟩ = some (.int .i64 (trn s k))) := fun k hk => by
          rw [ho2.cellAt k (by omega), tr_at _ _ _ hk]
        have CC := Lib.hid (contains_turn s 2 b cap2 s.size w2 h6 hcl.out)
        have B2 := Lib.hid (HBe.out.trans (hb2.mono hs0))
        have O2 : Hid (OwnR X Y s w2 w.heap.size (.slice (some ⟨g, 0, none⟩) s.size cap) s.size) := own_below HO.out hb2
        clear ho2 hb2
        go_wp2_with fail
        refine CC.out.mono ?_
        rintro e w' ⟨rfl, rfl⟩
        cases hh : hasTr s 2 s.size with
        | true =>
          have HN := Lib.hid (HNo.out hh)
          clear hh
          go_wp2_with fail
          go_ret2
          exact Or.inr ⟨HN.out, rfl, B2.out⟩
        | false =>
          have HN := Lib.hid (HYes.out hh)
          clear hh
          go_wp2_with fail
          go_ret2
          exact Or.inl ⟨HN.out, _, _, _, rfl, O2.out, B2.out⟩
      · have HN : Hid (¬ OKb X Y s) := fun ⟨_, _, _, h1, h2, _⟩ => hxy ⟨HXk.out.symm.trans h1, HYk.out.symm.trans h2⟩
        go_wp2_with fail
        all_goals first
          | (exact absurd ⟨by assumption, by assumption⟩ hxy)
          | (go_ret2; exact Or.inr ⟨HN.out, rfl, HBe.out⟩)

theorem routeOf_any (X Y : Int) (s : ByteArray) (w : World) (hs : s.size ≤ 1048576) (hm : Moves w) :
    Calls Tryd.prog 37 #[.agg #[.int .i64 X, .int .i64 Y, .string s]] w (SaysRt X Y s w) := by
  by_cases h : s.size < 4 ∨ 600 < s.size
  · exact routeOf_len X Y s w hs h
  · exact routeOf_mid X Y s w (by omega) (by omega) hm
end Go.Proofs.YtlmmeefcnjcceaaDoor
