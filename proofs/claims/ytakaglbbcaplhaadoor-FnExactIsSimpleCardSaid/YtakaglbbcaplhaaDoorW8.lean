/- Contracts of single functions, and plain lemmas, on which the exact laws of this seat rest; each holds under the conditions that it states. -/
import Derived.Test.YtakaglbbcaplhaaDoorI1
namespace Go.Proofs.YtakaglbbcaplhaaDoor
set_option linter.unusedVariables false
set_option linter.unusedSimpArgs false
open Go.RowKit

/-! ### l00Put -/
def putS (n : Int) (s : List Int × Bool) (x : Int) : List Int × Bool := if s.2 = false ∧ n ≤ x then (s.1 ++ (if n < x then [n] else []) ++ [x], true) else (s.1 ++ [x], s.2)
def putG (n : Int) (xs : List Int) : List Int × Bool := xs.foldl (putS n) ([], false)
def putL (n : Int) (xs : List Int) : List Int := if (putG n xs).2 then (putG n xs).1 else (putG n xs).1 ++ [n]
theorem putG_snoc (n : Int) (xs : List Int) (x : Int) : putG n (xs ++ [x]) = putS n (putG n xs) x := by simp [putG]
theorem putS_len (n : Int) (s : List Int × Bool) (x : Int) : (putS n s x).1.length ≤ s.1.length + 2 := by
  unfold putS
  split
  · simp
    split <;> simp
  · simp
theorem putG_len (n : Int) (xs : List Int) : (putG n xs).1.length ≤ 2 * xs.length := by
  have : ∀ (l : List Int) (s : List Int × Bool), (l.foldl (putS n) s).1.length ≤ s.1.length + 2 * l.length := fun l => by
    induction l with
    | nil => intro s; simp
    | cons x l ih =>
      intro s
      have h1 := ih (putS n s x)
      have h2 := putS_len n s x
      simp only [List.foldl_cons, List.length_cons]
      omega
  have h := this xs ([], false)
  simpa [putG] using h
theorem OwnN.grow {w' : World} {base : Nat} {v' : Value} {ns : List Int} {x : Int} (h : w'.ownsRow base 2 1 v' (ns.length + 1) (numsV ns ++ [.int .i64 x])) : OwnN w' base v' (ns ++ [x]) := by
  unfold OwnN
  rw [numsV_snoc, List.length_append]
  exact h

set_option maxHeartbeats 4000000 in
set_option maxRecDepth 100000 in
theorem l00Put_any (v : Value) (xs : List Int) (n : Int) (w : World) (hN : xs.length ≤ 1000) (hv : SlN w v xs) :
    Calls Tryd.prog 163 #[v, .int .i64 n] w (fun e w' => ∃ ao m cap, e = .returned (.slice ao m cap) ∧ OwnN w' w.heap.size (.slice ao m cap) (putL n xs) ∧ Below w.heap.size w w') := by
  obtain ⟨i0, hi, hz0, hz1, hz2⟩ := info_parts infoN64
  obtain ⟨vo, vc, rfl⟩ := hv.form
  have HV : Hid (∀ W, Below w.heap.size w W → ∀ i, i < xs.length → ∃ b off, vo = some ⟨b, off, none⟩ ∧ W.cell? ⟨b, off + i, none⟩ = some (.int .i64 (xs.getD i 0))) := fun W hb i hix => by
    rcases hv.below hb with ⟨ao, cap, e, e2⟩ | ⟨b, off, cap, e, h1, h2, h3⟩
    · subst e2; simp at hix
    · cases e; exact ⟨b, off, rfl, h3 i hix⟩
  have H0 : Hid (OwnN (w.alloc (.cells #[] 2)) w.heap.size (.slice (some ⟨w.heap.size, 0, none⟩) 0 0) (putG n (xs.take 0)).1) :=
    World.ownsRow_lit (base := w.heap.size) (e := 2) (size := 1) w #[] 0 (Nat.le_refl _) (by unfold maxLen; omega) rfl
  have HGl := Lib.hid (fun l => putG_len n l)
  have HGs := Lib.hid (fun l x => putG_snoc n l x)
  obtain ⟨m, hm⟩ : ∃ m, xs.length = m := ⟨_, rfl⟩
  have HM := Lib.hid hm
  rw [hm] at HV hN ⊢
  clear hv hm
  go_enter Tryd.func163, Tryd.ntmps163
  go_wp2
  go_loopw [5, 6, 7] (fun ov dv iv wr => ∃ i : Nat, i ≤ m ∧ iv = .int .i64 i ∧ dv = .bool (putG n (xs.take i)).2 ∧ (∃ ao k cap, ov = .slice ao k cap) ∧ Hid (OwnN wr w.heap.size ov (putG n (xs.take i)).1) ∧ Hid (Below w.heap.size w wr)) (fun _ _ iv _ => m - (intOf iv).toNat)
  case atStart => exact ⟨0, Nat.zero_le _, rfl, rfl, ⟨_, _, _, rfl⟩, H0.out, Joins.below_alloc1 _ _⟩
  case round =>
    clear H0
    obtain ⟨i, him, rfl, rfl, ⟨ao, k, cap, rfl⟩, HO, HB⟩ := hrel
    have hgl := HGl.out (xs.take i)
    rw [List.length_take] at hgl
    have hs := HB.out.size
    by_cases hlt : i < m
    · have klt : (i : Int) < (m : Int) := by omega
      obtain ⟨b, off, rfl, hcell⟩ := HV.out _ HB.out i hlt
      have htk : xs.take (i + 1) = xs.take i ++ [xs.getD i 0] := by
        have hix : i < xs.length := by rw [HM.out]; exact hlt
        rw [List.take_add_one, List.getElem?_eq_getElem hix, List.getD_eq_getElem?_getD, List.getElem?_eq_getElem hix]
        rfl
      have hgs := HGs.out (xs.take i) (xs.getD i 0)
      rw [← htk] at hgs
      obtain ⟨x, hx⟩ : ∃ x, xs.getD i 0 = x := ⟨_, rfl⟩
      rw [hx] at hcell hgs
      obtain ⟨⟨o, d⟩, hod⟩ : ∃ s, putG n (xs.take i) = s := ⟨_, rfl⟩
      rw [hod] at hgs HO hgl
      rw [hod]
      simp only at hgl
      have ho1 : o.length ≤ 2000 := by omega
      have HCell : Hid (∀ W, Below w.heap.size w W → W.cell? ⟨b, off + i, none⟩ = some (.int .i64 x)) := fun W hb => by
        obtain ⟨b', off', e, h⟩ := HV.out W hb i hlt
        cases e
        rw [hx] at h
        exact h
      have HGS := Lib.hid hgs
      have HOw : Hid (wr.ownsRow w.heap.size 2 1 (.slice ao k cap) o.length (numsV o)) := HO.out
      have HOw2 := Lib.hid (World.ownsRow.alloc HOw.out (.cells #[.int .i64 x] 2))
      have HOwn := Lib.hid (World.ownsRow.alloc HOw.out (.cells #[.int .i64 n] 2))
      clear htk hgs hx hod hgl HO
      by_cases hc : d = false ∧ n ≤ x
      · obtain ⟨rfl, hnx⟩ := hc
        have HG2 := HGS.out
        unfold putS at HG2
        rw [if_pos ⟨rfl, hnx⟩] at HG2
        by_cases hlx : n < x
        · rw [if_pos hlx] at HG2
          have HG3 := Lib.hid HG2
          clear HG2 HOw2 HGS
          go_wp2_with (at_builtin; refine wpList_append_own _ rfl _ _ 42 rfl w.heap.size 2 i0 (.int .i64 0) 1 8 Tryd.underlying42 hi hz0 hz1 hz2 rfl (by decide) _ _ _ rfl HOwn.out ⟨wr.heap.size, 0, none⟩ 1 1 [.int .i64 n] rfl rfl (cell_one_new _ _ _) (by intro u hu; simp at hu; subst hu; rfl) (by unfold maxLen; omega) (by omega) (by simp; omega) ?_)
          intro v' w5 hown' hgr _
          have HB5 : Hid (Below w.heap.size w w5) := (HB.out.alloc hs _).grown hgr (by simp; omega) (fun j hj => (HOwn.out.lt j hj).1)
          have HO5 := Lib.hid (OwnN.grow hown')
          obtain ⟨g', c', rfl⟩ := Joins.ownsRow_form hown' (by omega)
          have hc5 := HCell.out _ HB5.out
          have hs5 := HB5.out.size
          have HOw5 : Hid (w5.ownsRow w.heap.size 2 1 (.slice (some ⟨g', 0, none⟩) (o.length + 1) c') (o ++ [n]).length (numsV (o ++ [n]))) := HO5.out
          have HOw6 := Lib.hid (World.ownsRow.alloc HOw5.out (.cells #[.int .i64 x] 2))
          have hol : (o ++ [n]).length ≤ 2001 := by rw [List.length_append]; simp; omega
          clear hown' hgr hcell HOwn HO5 HOw5 HOw
          go_wp2_with (at_builtin; refine wpList_append_own _ rfl _ _ 42 rfl w.heap.size 2 i0 (.int .i64 0) 1 8 Tryd.underlying42 hi hz0 hz1 hz2 rfl (by decide) _ _ _ rfl HOw6.out ⟨w5.heap.size, 0, none⟩ 1 1 [.int .i64 x] rfl rfl (cell_one_new _ _ _) (by intro u hu; simp at hu; subst hu; rfl) (by unfold maxLen; omega) (by omega) (by simp; omega) ?_)
          intro v' w6 hown' hgr _
          have HB6 : Hid (Below w.heap.size w w6) := (HB5.out.alloc hs5 _).grown hgr (by simp; omega) (fun j hj => (HOw6.out.lt j hj).1)
          have HO6 := Lib.hid (OwnN.grow (ns := o ++ [n]) (x := x) (by rw [List.length_append]; exact hown'))
          obtain ⟨g'', c'', rfl⟩ := Joins.ownsRow_form hown' (by omega)
          clear hown' hgr
          go_wp2
          go_roundw
          case rel => exact ⟨i + 1, by omega, by go_num, by rw [HG3.out], ⟨_, _, _, rfl⟩, by rw [HG3.out]; exact HO6.out, HB6⟩
          case measure => simp [intOf]; omega
        · rw [if_neg hlx, List.append_nil] at HG2
          have HG3 := Lib.hid HG2
          clear HG2 HOwn HGS
          go_wp2_with (at_builtin; refine wpList_append_own _ rfl _ _ 42 rfl w.heap.size 2 i0 (.int .i64 0) 1 8 Tryd.underlying42 hi hz0 hz1 hz2 rfl (by decide) _ _ _ rfl HOw2.out ⟨wr.heap.size, 0, none⟩ 1 1 [.int .i64 x] rfl rfl (cell_one_new _ _ _) (by intro u hu; simp at hu; subst hu; rfl) (by unfold maxLen; omega) (by omega) (by simp; omega) ?_)
          intro v' w5 hown' hgr _
          have HB5 : Hid (Below w.heap.size w w5) := (HB.out.alloc hs _).grown hgr (by simp; omega) (fun j hj => (HOw2.out.lt j hj).1)
          have HO5 := Lib.hid (OwnN.grow hown')
          obtain ⟨g', c', rfl⟩ := Joins.ownsRow_form hown' (by omega)
          clear hown' hgr
          go_wp2
          go_roundw
          case rel => exact ⟨i + 1, by omega, by go_num, by rw [HG3.out], ⟨_, _, _, rfl⟩, by rw [HG3.out]; exact HO5.out, HB5⟩
          case measure => simp [intOf]; omega
      · have HG2 := HGS.out
        unfold putS at HG2
        rw [if_neg hc] at HG2
        have HG3 := Lib.hid HG2
        clear HG2
        cases d with
        | true =>
          go_wp2_with (at_builtin; refine wpList_append_own _ rfl _ _ 42 rfl w.heap.size 2 i0 (.int .i64 0) 1 8 Tryd.underlying42 hi hz0 hz1 hz2 rfl (by decide) _ _ _ rfl HOw2.out ⟨wr.heap.size, 0, none⟩ 1 1 [.int .i64 x] rfl rfl (cell_one_new _ _ _) (by intro u hu; simp at hu; subst hu; rfl) (by unfold maxLen; omega) (by omega) (by simp; omega) ?_)
          intro v' w5 hown' hgr _
          have HB5 : Hid (Below w.heap.size w w5) := (HB.out.alloc hs _).grown hgr (by simp; omega) (fun j hj => (HOw2.out.lt j hj).1)
          have HO5 := Lib.hid (OwnN.grow hown')
          obtain ⟨g', c', rfl⟩ := Joins.ownsRow_form hown' (by omega)
          clear hown' hgr
          go_wp2
          go_roundw
          case rel => exact ⟨i + 1, by omega, by go_num, by rw [HG3.out], ⟨_, _, _, rfl⟩, by rw [HG3.out]; exact HO5.out, HB5⟩
          case measure => simp [intOf]; omega
        | false =>
          have hlt2 : ¬ n ≤ x := fun h => hc ⟨rfl, h⟩
          go_wp2_with (at_builtin; refine wpList_append_own _ rfl _ _ 42 rfl w.heap.size 2 i0 (.int .i64 0) 1 8 Tryd.underlying42 hi hz0 hz1 hz2 rfl (by decide) _ _ _ rfl HOw2.out ⟨wr.heap.size, 0, none⟩ 1 1 [.int .i64 x] rfl rfl (cell_one_new _ _ _) (by intro u hu; simp at hu; subst hu; rfl) (by unfold maxLen; omega) (by omega) (by simp; omega) ?_)
          intro v' w5 hown' hgr _
          have HB5 : Hid (Below w.heap.size w w5) := (HB.out.alloc hs _).grown hgr (by simp; omega) (fun j hj => (HOw2.out.lt j hj).1)
          have HO5 := Lib.hid (OwnN.grow hown')
          obtain ⟨g', c', rfl⟩ := Joins.ownsRow_form hown' (by omega)
          clear hown' hgr
          go_wp2
          go_roundw
          case rel => exact ⟨i + 1, by omega, by go_num, by rw [HG3.out], ⟨_, _, _, rfl⟩, by rw [HG3.out]; exact HO5.out, HB5⟩
          case measure => simp [intOf]; omega
    · obtain rfl : i = m := by omega
      have hki : ¬ (i : Int) < (i : Int) := by omega
      have htk : xs.take i = xs := List.take_of_length_le (by rw [HM.out]; exact Nat.le_refl _)
      rw [htk] at HO hgl
      rw [htk]
      have HRes : Hid (putL n xs = if (putG n xs).2 then (putG n xs).1 else (putG n xs).1 ++ [n]) := rfl
      obtain ⟨⟨o, d⟩, hod⟩ : ∃ s, putG n xs = s := ⟨_, rfl⟩
      rw [hod] at HO hgl HRes
      rw [hod]
      simp only at hgl
      have ho1 : o.length ≤ 2000 := by omega
      have HOw : Hid (wr.ownsRow w.heap.size 2 1 (.slice ao k cap) o.length (numsV o)) := HO.out
      have HOwn := Lib.hid (World.ownsRow.alloc HOw.out (.cells #[.int .i64 n] 2))
      clear htk hod hgl
      cases d with
      | true =>
        have HR2 : Hid (OwnN wr w.heap.size (.slice ao k cap) (putL n xs)) := by show OwnN _ _ _ _; rw [HRes.out]; exact HO.out
        clear HO HRes
        go_wp2
        go_ret
        exact ⟨_, _, _, rfl, HR2.out, HB.out⟩
      | false =>
        go_wp2_with (at_builtin; refine wpList_append_own _ rfl _ _ 42 rfl w.heap.size 2 i0 (.int .i64 0) 1 8 Tryd.underlying42 hi hz0 hz1 hz2 rfl (by decide) _ _ _ rfl HOwn.out ⟨wr.heap.size, 0, none⟩ 1 1 [.int .i64 n] rfl rfl (cell_one_new _ _ _) (by intro u hu; simp at hu; subst hu; rfl) (by unfold maxLen; omega) (by omega) (by simp; omega) ?_)
        intro v' w5 hown' hgr _
        have HB5 : Hid (Below w.heap.size w w5) := (HB.out.alloc hs _).grown hgr (by simp; omega) (fun j hj => (HOwn.out.lt j hj).1)
        have HR2 : Hid (OwnN w5 w.heap.size v' (putL n xs)) := by show OwnN _ _ _ _; rw [HRes.out]; exact OwnN.grow hown'
        obtain ⟨g', c', rfl⟩ := Joins.ownsRow_form hown' (by omega)
        clear hown' hgr
        go_wp2
        go_ret
        exact ⟨_, _, _, rfl, HR2.out, HB5.out⟩
end Go.Proofs.YtakaglbbcaplhaaDoor
