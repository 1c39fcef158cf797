/- Contracts of single functions, and plain lemmas, on which the exact laws of this seat rest; each holds under the conditions that it states. -/
import Derived.Test.YtaopdhncapoefaaDoorS7
import Derived.Test.YtaopdhncapoefaaDoorQc
import Derived.Deep.RegionHeld3
namespace Go.Proofs.YtaopdhncapoefaaDoor
set_option linter.unusedVariables false
set_option linter.unusedSimpArgs false
open Go.RowKit

/-- the ends of lines among some spots -/
def edL (p : Int → Int → Bool) (L : List (Int × Int)) : List (Int × Int) := L.filter fun q => decide (cntF (rgV p q.1 q.2) 8 = 1)
def edV (ss : List ByteArray) : List (Int × Int) := if validB ss = true then edL (pixI ss) (spL (pixF ss) (row0 ss).size ((row0 ss).size * ss.length)) else []
theorem edL_len (p : Int → Int → Bool) (L : List (Int × Int)) : (edL p L).length ≤ L.length := List.length_filter_le _ _
theorem edL_snoc (p : Int → Int → Bool) (L : List (Int × Int)) (q : Int × Int) : edL p (L ++ [q]) = edL p L ++ (if cntF (rgV p q.1 q.2) 8 = 1 then [q] else []) := by
  unfold edL
  rw [List.filter_append]
  congr 1
  by_cases h : cntF (rgV p q.1 q.2) 8 = 1
  · rw [if_pos h, List.filter_cons_of_pos (by simpa using h), List.filter_nil]
  · rw [if_neg h, List.filter_cons_of_neg (by simpa using h), List.filter_nil]
theorem spL_rng (f : Nat → Nat → Bool) (wd n : Nat) (hw : 1 ≤ wd) (q : Int × Int) (h : q ∈ spL f wd (wd * n)) : (0 ≤ q.1 ∧ q.1 < (wd : Int)) ∧ (0 ≤ q.2 ∧ q.2 < (n : Int)) := by
  unfold spL at h
  obtain ⟨i, hi, e⟩ := List.mem_filterMap.1 h
  rw [List.mem_range] at hi
  split at e
  · obtain rfl := Option.some.inj e
    have h1 : i % wd < wd := Nat.mod_lt _ hw
    have h2 : i / wd < n := Nat.div_lt_of_lt_mul hi
    exact ⟨⟨Int.natCast_nonneg _, Int.ofNat_lt.2 h1⟩, Int.natCast_nonneg _, Int.ofNat_lt.2 h2⟩
  · cases e
theorem take_getD {L : List (Int × Int)} {k : Nat} (h : k < L.length) : L.take (k + 1) = L.take k ++ [L.getD k (0, 0)] := by
  rw [List.take_add_one, List.getElem?_eq_getElem h, List.getD_eq_getElem?_getD, List.getElem?_eq_getElem h]
  rfl
theorem getD_mem {L : List (Int × Int)} {k : Nat} (h : k < L.length) : L.getD k (0, 0) ∈ L := by
  rw [List.getD_eq_getElem?_getD, List.getElem?_eq_getElem h]
  exact List.getElem_mem h

set_option maxHeartbeats 4000000 in
set_option maxRecDepth 100000 in
theorem spec_Ends (v : Value) (ss : List ByteArray) (w : World) (hN : ss.length ≤ maxLen) (hz : ∀ s ∈ ss, s.size ≤ maxLen) (hv : Sl w v ss) :
    Calls Tryd.prog 18 #[.agg #[v]] w (SaysSp (edV ss) (validB ss) w) := by
  obtain ⟨i0, hi, hz0, hz1, hz2⟩ := info_parts infoSp
  have hb0 := Joins.below_alloc1 w (.cells #[v] 28)
  have hc0 : (w.alloc (.cells #[v] 28)).cell? ⟨w.heap.size, 0, none⟩ = some v := by rw [World.cell?_alloc_mark]; rfl
  have C := Lib.hid (l01Is_any w.heap.size 0 v ss (w.alloc (.cells #[v] 28)) hc0 (hv.below hb0) hN hz)
  cases hok : validB ss with
  | false =>
    have e1 : Hid (edV ss = []) := by show edV ss = _; unfold edV; rw [hok]; rfl
    have HOk := Lib.hid hok
    clear hok hv hc0 hb0
    go_enter Tryd.func18, Tryd.ntmps18
    go_wp2_with fail
    refine C.out.mono ?_
    rintro e w' ⟨rfl, hb⟩
    rw [HOk.out]
    have HB := Lib.hid hb
    clear hb
    go_wp2_with fail
    go_ret2
    rw [e1.out]
    exact ⟨_, _, _, rfl, World.ownsRow_nil _ _ _ _, (Joins.below_alloc1 w _).trans (HB.out.mono (by simp))⟩
  | true =>
    have V := vp_of hok
    have hn16 := V.n16
    have hw16 := V.w16
    have hw1 := V.w1
    have hp : Hid (∀ W, Below (w.alloc (.cells #[v] 28)).heap.size (w.alloc (.cells #[v] 28)) W → PicAt W w.heap.size 0 ss) := fun W hb =>
      ⟨hok, v, cell_kept hb hc0, (hv.below hb0).below hb⟩
    have CS := Lib.hid (fun W (hb : Below (w.alloc (.cells #[v] 28)).heap.size (w.alloc (.cells #[v] 28)) W) => l01Spots_any w.heap.size 0 ss W (hp.out W hb))
    have CN := Lib.hid (fun (X Y : Int) W (hb : Below (w.alloc (.cells #[v] 28)).heap.size (w.alloc (.cells #[v] 28)) W) (hx : -40 ≤ X ∧ X ≤ 40) (hy : -40 ≤ Y ∧ Y ≤ 40) => l05Near_any w.heap.size 0 ss X Y W hx hy (hp.out W hb))
    have HOk := Lib.hid hok
    have e1 : Hid (edV ss = edL (pixI ss) (spL (pixF ss) (row0 ss).size ((row0 ss).size * ss.length))) := by show edV ss = _; unfold edV; rw [hok]; rfl
    have HRng : Hid (∀ q ∈ spL (pixF ss) (row0 ss).size ((row0 ss).size * ss.length), (0 ≤ q.1 ∧ q.1 < ((row0 ss).size : Int)) ∧ (0 ≤ q.2 ∧ q.2 < (ss.length : Int))) := fun q hq => spL_rng _ _ _ hw1 q hq
    have hLl : (spL (pixF ss) (row0 ss).size ((row0 ss).size * ss.length)).length ≤ 256 := Nat.le_trans (spL_len _ _ _) (Nat.mul_le_mul hw16 hn16)
    obtain ⟨L, hL⟩ : ∃ L, spL (pixF ss) (row0 ss).size ((row0 ss).size * ss.length) = L := ⟨_, rfl⟩
    obtain ⟨p, hpp⟩ : ∃ p, pixI ss = p := ⟨_, rfl⟩
    rw [hL] at CS e1 HRng hLl
    rw [hpp] at CN e1
    have HW0 := Lib.hid hb0
    clear hok hv hc0 hb0 V hL hpp hp
    go_enter Tryd.func18, Tryd.ntmps18
    go_wp2_with fail
    refine C.out.mono ?_
    rintro e w' ⟨rfl, hb⟩
    rw [HOk.out]
    have HB := Lib.hid hb
    clear hb C
    go_wp2_with fail
    refine (CS.out _ HB.out).mono ?_
    rintro e w2 ⟨v2, rfl, ⟨ao, m, cap, rfl⟩, hown, hb2⟩
    have B2 := Lib.hid (HB.out.trans (hb2.mono HB.out.size))
    obtain ⟨n, hn⟩ : ∃ n, L.length = n := ⟨_, rfl⟩
    have hmn : m = n := by
      rcases Joins.ownsRow_forms hown with ⟨h1, h0⟩ | ⟨g, c, h1⟩
      · cases h1; omega
      · cases h1; exact hn
    subst hmn
    have HSp : Hid (0 < m → ∃ b, ao = some ⟨b, 0, none⟩ ∧ Spots w2 b L) := fun h => by
      rcases Joins.ownsRow_forms hown with ⟨h1, h0⟩ | ⟨g, c, h1⟩
      · omega
      · cases h1; exact ⟨g, rfl, OwnS.spots hown⟩
    have Hn := Lib.hid hn
    clear hown hb2 CS HB
    rw [hn] at hLl
    have hs20 := B2.out.size
    go_wp2
    go_loopw [5, 6] (fun ov iv wr => ∃ i : Nat, i ≤ m ∧ iv = .int .i64 i ∧ (∃ ao n cap, ov = .slice ao n cap) ∧ OwnS wr w2.heap.size ov (edL p (L.take i)) ∧ Below w2.heap.size w2 wr) (fun _ iv _ => m - (intOf iv).toNat)
    case atStart =>
      refine ⟨0, Nat.zero_le _, rfl, ⟨_, _, _, rfl⟩, ?_, Joins.below_alloc1 _ _⟩
      exact World.ownsRow_lit (base := w2.heap.size) (e := 71) (size := 2) w2 #[] 0 (Nat.le_refl _) (by unfold maxLen; omega) rfl
    case round =>
      obtain ⟨i, him, rfl, ⟨ao5, m5, cap5, rfl⟩, hown, hbel⟩ := hrel
      by_cases hlt : i < m
      · have klt : (i : Int) < (m : Int) := by omega
        obtain ⟨b, rfl, hbl, hcs⟩ := HSp.out (by omega)
        have hiL : i < L.length := by rw [Hn.out]; exact hlt
        have c0 := (hcs i hiL).1
        have c1 := (hcs i hiL).2
        have hr := HRng.out _ (getD_mem hiL)
        have htk := congrArg (edL p) (take_getD hiL)
        rw [edL_snoc] at htk
        have hle := edL_len p (L.take i)
        rw [List.length_take] at hle
        have hsz := hbel.size
        obtain ⟨x, hx⟩ : ∃ x, (L.getD i (0, 0)).1 = x := ⟨_, rfl⟩
        obtain ⟨y, hy⟩ : ∃ y, (L.getD i (0, 0)).2 = y := ⟨_, rfl⟩
        have hxy : L.getD i (0, 0) = (x, y) := by rw [← hx, ← hy]
        rw [hxy] at hr htk
        rw [hx] at c0
        rw [hy] at c1
        simp only at hr htk
        have CNx := Lib.hid (CN.out x y wr.drew (B2.out.trans ((hbel.mono hs20).drew)) (by omega) (by omega))
        obtain ⟨N, hNn⟩ : ∃ N, cntF (rgV p x y) 8 = N := ⟨_, rfl⟩
        rw [hNn] at CNx htk
        have HT := Lib.hid htk
        have HO := Lib.hid hown
        have HB := Lib.hid hbel
        have HX : Hid (∀ W, Below w2.heap.size w2 W → W.cell? ⟨b, i * 2, none⟩ = some (.int .i64 x) ∧ W.cell? ⟨b, i * 2 + 1, none⟩ = some (.int .i64 y)) := fun W hb => ⟨cell_kept hb c0, cell_kept hb c1⟩
        obtain ⟨Lp, hLp⟩ : ∃ Lp, edL p (L.take i) = Lp := ⟨_, rfl⟩
        rw [hLp] at HT HO hle
        have hl5 : Lp.length ≤ 256 := by omega
        clear hown hbel hcs c0 c1 htk hx hy hxy hNn hLp hle
        go_wp2_with fail
        go_region_held3 (fun w' => w'.cell? ⟨b, i * 2, none⟩ = some (.int .i64 x) ∧ w'.cell? ⟨b, i * 2 + 1, none⟩ = some (.int .i64 y))
          (first | exact HX.out _ HB.out | exact HX.out _ HB.out.drew | exact HX.out _ hB4)
          (first | (go_at_call 46; refine CNx.out.mono ?_; rintro e w4 ⟨rfl, hb4⟩; have hB4 := HB.out.drew.trans (hb4.mono hsz)))
        have hb24 := HB.out.drew.trans (hb4.mono hsz)
        have O4 := Lib.hid (own_below (own_below HO.out (Below.refl wr.heap.size wr).drew) hb4)
        have B4 := Lib.hid hb24
        have c0 := (HX.out _ hb24).1
        have c1 := (HX.out _ hb24).2
        have hs4 := hb24.size
        clear hb4 hB4 hb24 HO HB HX CNx
        by_cases h1 : N = 1
        · subst h1
          rw [if_pos rfl] at HT
          have k1 : (((1 : Nat) : Int) == 1) = true := rfl
          go_wp2_with (at_builtin; refine wpList_append_own _ rfl _ _ 38 rfl w2.heap.size 71 i0 (.agg #[.int .i64 0, .int .i64 0]) 2 16 Tryd.underlying38 hi hz0 hz1 hz2 rfl (by decide) _ _ _ rfl (World.ownsRow.alloc O4.out _) ⟨w4.heap.size, 0, none⟩ 1 1 [.int .i64 x, .int .i64 y] rfl rfl (two_cells_new _ _ _ _) (by intro u hu; simp at hu; rcases hu with rfl | rfl <;> rfl) (by unfold maxLen; omega) (by omega) (by simp; omega) ?_)
          intro v' w5 hown' hgr _
          have o1 := World.ownsRow.alloc O4.out (.cells #[.int .i64 x, .int .i64 y] 71)
          have B5 : Hid (Below w2.heap.size w2 w5) := (B4.out.alloc hs4 _).grown hgr (by simp; omega) (fun k hk => (o1.lt k hk).1)
          have O5 : Hid (OwnS w5 w2.heap.size v' (edL p (L.take (i + 1)))) := by
            show OwnS _ _ _ _
            unfold OwnS
            rw [HT.out, flat2_snoc, List.length_append]
            exact hown'
          obtain ⟨g', c', rfl⟩ := Joins.ownsRow_form hown' (by omega)
          clear hown' hgr o1
          go_wp2
          go_roundw
          case rel => exact ⟨i + 1, by omega, by go_num, ⟨_, _, _, rfl⟩, O5.out, B5.out⟩
          case measure => simp [intOf]; omega
        · rw [if_neg h1, List.append_nil] at HT
          have k1 : ((N : Int) == 1) = false := by simp; omega
          go_wp2
          go_roundw
          case rel => exact ⟨i + 1, by omega, by go_num, ⟨_, _, _, rfl⟩, by rw [HT.out]; exact O4.out, B4.out⟩
          case measure => simp [intOf]; omega
      · obtain rfl : i = m := by omega
        have hs := HW0.out.size
        have hww : w.heap.size ≤ w2.heap.size := by have := hs20; simp at this; omega
        have O2 : Hid (OwnS wr w.heap.size (.slice ao5 m5 cap5) (edV ss)) := by
          show OwnS _ _ _ _
          rw [e1.out]
          rw [List.take_of_length_le (by rw [Hn.out]; exact Nat.le_refl _)] at hown
          exact Joins.ownsRow_le hown hww
        have B5 := Lib.hid ((HW0.out.trans (B2.out.mono hs)).trans (hbel.mono hww))
        clear hown hbel
        go_wp2
        go_ret2
        exact ⟨_, _, _, rfl, O2.out, B5.out⟩
end Go.Proofs.YtaopdhncapoefaaDoor
