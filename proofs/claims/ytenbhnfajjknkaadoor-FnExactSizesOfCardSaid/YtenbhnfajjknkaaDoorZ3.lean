/- Contracts of single functions, and plain lemmas, on which the exact laws of this seat rest; each holds under the conditions that it states. -/
import Derived.Test.YtenbhnfajjknkaaDoorHd
import Derived.Test.YtenbhnfajjknkaaDoorBq
import Derived.Test.YtenbhnfajjknkaaDoorI1
import Derived.Test.YtenbhnfajjknkaaDoorZ2
namespace Go.Proofs.YtenbhnfajjknkaaDoor
set_option linter.unusedVariables false
open Go.RowKit

set_option maxHeartbeats 400000 in
theorem toStringS_any (b off n cap : Nat) (ss : List ByteArray) (w : World) (hn : ss.length = n) (hN : n ≤ 1048576) (hc : Strs w b off ss) :
    Calls Tryd.prog 42 #[.slice (some ⟨b, off, none⟩) n cap] w fun e w' =>
      e = .returned (.slice (some ⟨w.heap.size, 0, none⟩) n n) ∧ w'.ownsRow w.heap.size 9 1 (.slice (some ⟨w.heap.size, 0, none⟩) n n) n (ss.map Value.string) ∧ Below w.heap.size w w' := by
  obtain ⟨i0, hi, hz0, hz1, hz2⟩ := info_parts Tryd.info9
  obtain ⟨hb, hc⟩ := hc
  have HC := Lib.hid hc
  clear hc
  go_enter Tryd.func42, Tryd.ntmps42
  go_wp2_with (at_make; refine wpList_make_full _ rfl _ _ 22 rfl w.heap.size 9 i0 (.string ⟨#[]⟩) 1 Tryd.underlying22 hi hz0 hz1 _ _ _ _ n rfl rfl rfl rfl ?c1 ?c2 (Nat.le_refl _) ?_)
  case c1 => rw [hz2]; omega
  case c2 => unfold maxLen; omega
  intro w1 hown hg
  rw [toList_madeCells_one] at hown
  have hbel : Below w.heap.size w w1 := (Below.refl _ _).grown hg (Nat.le_refl _) (fun k h => by cases h)
  clear hg
  go_wp2
  go_loopw [4] (fun i wr => ∃ k : Nat, k ≤ n ∧ i = .int .i64 k ∧ wr.ownsRow w.heap.size 9 1 (.slice (some ⟨w.heap.size, 0, none⟩) n n) n ((List.range k).map (fun i => Value.string (ss.getD i ByteArray.empty)) ++ List.replicate (n - k) (.string ⟨#[]⟩)) ∧ Below w.heap.size w wr) (fun i _ => n - (intOf i).toNat)
  case atStart => exact ⟨0, Nat.zero_le _, rfl, by simpa using hown, hbel⟩
  case round =>
    clear hown hbel
    obtain ⟨k, hk, rfl, hown, hbel⟩ := hrel
    by_cases hlt : k < n
    · have hcell : wr.cell? ⟨b, off + k, none⟩ = some (.string (ss.getD k ByteArray.empty)) := (hbel.cell (p := ⟨b, off + k, none⟩) hb).trans (HC.out k (by omega))
      have hfz := hown.frozenAt k
      have hold := hown.cellAt k (by omega)
      rw [List.getElem?_append_right (by simp)] at hold
      simp only [List.length_map, List.length_range, Nat.sub_self] at hold
      rw [show n - k = (n - (k + 1)) + 1 from by omega, List.replicate_succ] at hold
      simp only [List.getElem?_cons_zero] at hold
      have hst := hown.stored k (.string (ss.getD k ByteArray.empty))
      rw [set_prefix (fun i => Value.string (ss.getD i ByteArray.empty)) _ n k hlt] at hst
      have HS := Lib.hid hst
      have HO := Lib.hid hown
      have HB := Lib.hid hbel
      obtain ⟨s, hs⟩ : ∃ s, ss.getD k ByteArray.empty = s := ⟨_, rfl⟩
      rw [hs] at hcell HS
      have Hs := Lib.hid hs
      clear hst hown hbel hs
      go_wp2
      go_roundw
      case rel => exact ⟨k + 1, by omega, by go_num, HS.out.1, HB.out.setCell (Nat.le_refl _) _⟩
      case measure => simp [intOf]; omega
    · obtain rfl : k = n := by omega
      subst hn
      simp only [Nat.sub_self, List.replicate_zero, List.append_nil, range_getD] at hown
      have HO := Lib.hid hown
      have HB := Lib.hid hbel
      clear hown hbel
      go_wp2
      go_ret
      exact ⟨rfl, HO.out, HB.out⟩

set_option maxHeartbeats 400000 in
theorem toStringS_sl (v : Value) (ss : List ByteArray) (w : World) (hN : ss.length ≤ 1048576) (hv : Sl w v ss) :
    Calls Tryd.prog 42 #[v] w fun e w' => e = .returned (.slice (some ⟨w.heap.size, 0, none⟩) ss.length ss.length) ∧ OwnP w' w.heap.size (.slice (some ⟨w.heap.size, 0, none⟩) ss.length ss.length) ss ∧ Below w.heap.size w w' := by
  rcases hv with ⟨ao, cap, rfl, rfl⟩ | ⟨b, off, cap, rfl, hpos, hc⟩
  · obtain ⟨i0, hi, hz0, hz1, hz2⟩ := info_parts Tryd.info9
    go_enter Tryd.func42, Tryd.ntmps42
    go_wp2_with (at_make; refine wpList_make_full _ rfl _ _ 22 rfl w.heap.size 9 i0 (.string ⟨#[]⟩) 1 Tryd.underlying22 hi hz0 hz1 _ _ _ _ 0 rfl rfl rfl rfl ?c1 ?c2 (Nat.le_refl _) ?_)
    case c1 => omega
    case c2 => unfold maxLen; omega
    intro w1 hown hg
    rw [toList_madeCells_one] at hown
    have hbel : Below w.heap.size w w1 := (Below.refl _ _).grown hg (Nat.le_refl _) (fun k h => by cases h)
    have HB := Lib.hid hbel
    have HO := Lib.hid hown
    clear hg hown hbel
    go_wp2
    refine wp_loop_rounds 1 ?_; rw [rounds_succ]
    go_wp2
    go_ret
    exact ⟨rfl, HO.out, HB.out⟩
  · exact toStringS_any b off ss.length cap ss w rfl hN hc

theorem toPicture_any (v : Value) (ss : List ByteArray) (w : World) (hN : ss.length ≤ 1048576) (hv : Sl w v ss) :
    Calls Tryd.prog 14 #[.agg #[v]] w (TookPic w ss) := by
  go_enter Tryd.func14, Tryd.ntmps14
  go_wp2_with fail
  refine (toStringS_sl v ss _ hN (hv.below (Joins.below_alloc3 w _ _ _))).mono ?_
  rintro e w1 ⟨rfl, hown, hb⟩
  simp at hown
  obtain ⟨hc, hf⟩ := bcell hb
  have hz : w.heap.size + 2 < w1.heap.size := by have := hb.size; simp at this; omega
  have hz1 : w.heap.size + 1 < w1.heap.size := by omega
  go_wp2_with fail
  refine bodyPost_ret (v := .agg #[.slice (some ⟨w.heap.size + 1 + 1 + 1, 0, none⟩) ss.length ss.length]) (by simp [results, Tryd.results14, go_sem, hc]) rfl ⟨_, _, rfl, ?_, ?_⟩
  · have := ownsRow_setCell_below (ownsRow_setCell_below hown (a := ⟨w.heap.size + 1 + 1, 0, none⟩) (by simp) (.slice (some ⟨w.heap.size + 1 + 1 + 1, 0, none⟩) ss.length ss.length)) (a := ⟨w.heap.size + 1, 0, none⟩) (by simp) (.slice (some ⟨w.heap.size + 1 + 1 + 1, 0, none⟩) ss.length ss.length)
    exact Joins.ownsRow_le this (by omega)
  · exact (((Joins.below_alloc3 w _ _ _).trans (hb.mono (by simp; omega))).setCell (by simp; omega) _).setCell (by simp) _
end Go.Proofs.YtenbhnfajjknkaaDoor

/- Contracts of single functions, and plain lemmas, on which the exact laws of this seat rest; each holds under the conditions that it states. -/
namespace Go.Proofs.YtenbhnfajjknkaaDoor
set_option linter.unusedVariables false
open Go.RowKit

set_option maxHeartbeats 400000 in
theorem szStringS_any (v : Value) (ss : List ByteArray) (left : Int) (w : World) (h0 : 0 ≤ left) (h1 : left ≤ 1048576) (hN : ss.length ≤ maxLen) (hz : ∀ s ∈ ss, s.size ≤ maxLen) (hv : Sl w v ss) :
    Calls Tryd.prog 39 #[v, .int .i64 left] w (SomeSz left ss w) := by
  unfold maxLen at hN hz
  rcases hv with ⟨ao, cap, rfl, rfl⟩ | ⟨b, off, cap, rfl, hpos, hb, hc⟩
  · go_enter Tryd.func39, Tryd.ntmps39
    go_wp2
    refine wp_loop_rounds 1 ?_; rw [rounds_succ]
    go_wp2
    go_ret
    exact ⟨_, rfl, by omega, by omega, fun _ => ⟨by simpa using h0, fun s h => by cases h⟩, Below.refl _ _⟩
  · obtain ⟨n, hn⟩ : ∃ n, ss.length = n := ⟨_, rfl⟩
    rw [hn] at hc hpos hN ⊢
    have HN := Lib.hid hn
    have HC := Lib.hid hc
    have HZ := Lib.hid hz
    clear hn hc hz
    by_cases hl : left - n < 0
    · go_enter Tryd.func39, Tryd.ntmps39
      go_wp2
      go_ret
      exact ⟨_, rfl, by omega, by omega, fun h => absurd h (by decide), Below.refl _ _⟩
    · go_enter Tryd.func39, Tryd.ntmps39
      go_wp2
      go_loop [1, 5] (fun l i => ∃ (k : Nat) (q : Int), k ≤ n ∧ i = .int .i64 k ∧ l = .int .i64 q ∧ 0 ≤ q ∧ q ≤ left ∧ Hid (∀ j, j < k → ((ss.getD j ByteArray.empty).size : Int) ≤ left)) (fun _ i => n - (intOf i).toNat)
      case atStart => exact ⟨0, left - n, Nat.zero_le _, rfl, rfl, by omega, by omega, fun j h => by omega⟩
      case round =>
        obtain ⟨k, q, hk, rfl, rfl, hq0, hq1, H⟩ := hrel
        by_cases hlt : k < n
        · have hcell := HC.out k hlt
          obtain ⟨s, hs⟩ : ∃ s, ss.getD k ByteArray.empty = s := ⟨_, rfl⟩
          rw [hs] at hcell
          have hsz : s.size ≤ 2 ^ 63 - 1 := by
            rw [← hs]
            refine HZ.out _ ?_
            have hk' : k < ss.length := by rw [HN.out]; exact hlt
            rw [List.getD_eq_getElem?_getD, List.getElem?_eq_getElem hk']
            exact List.getElem_mem _
          have Hs := Lib.hid hs
          clear hs
          by_cases hq : q - s.size < 0
          · go_wp2
            go_ret
            exact ⟨_, rfl, by omega, by omega, fun h => absurd h (by decide), Below.refl _ _⟩
          · go_wp2
            go_round
            case rel => exact ⟨k + 1, q - s.size, by omega, by go_num, rfl, by omega, by omega, fun j hj => by
              by_cases e : j = k
              · subst e; rw [Hs.out]; omega
              · exact H.out j (by omega)⟩
            case measure => simp [intOf]; omega
        · obtain rfl : k = n := by omega
          go_wp2
          go_ret
          exact ⟨_, rfl, by omega, by omega, fun _ => ⟨by rw [HN.out]; omega, fun s hs => by
            obtain ⟨j, hj, rfl⟩ := List.getElem_of_mem hs
            have := H.out j (by rw [HN.out] at hj; exact hj)
            rw [List.getD_eq_getElem?_getD, List.getElem?_eq_getElem hj] at this
            exact this⟩, Below.refl _ _⟩

theorem szPicture_any (v : Value) (ss : List ByteArray) (left : Int) (w : World) (h0 : 0 ≤ left) (h1 : left ≤ 1048576) (hN : ss.length ≤ maxLen) (hz : ∀ s ∈ ss, s.size ≤ maxLen) (hv : Sl w v ss) :
    Calls Tryd.prog 11 #[.agg #[v], .int .i64 left] w (SomeSz left ss w) := by
  go_enter Tryd.func11, Tryd.ntmps11
  go_wp2_with fail
  refine (szStringS_any v ss left _ h0 h1 hN hz (hv.below (Joins.below_alloc1 w _))).mono ?_
  rintro e w' ⟨r, rfl, h2, h3, h4, hb⟩
  by_cases hr : r < 0
  · go_wp2_with fail
    go_ret
    exact ⟨_, rfl, by omega, by omega, fun h => absurd h (by decide), (Joins.below_alloc1 w _).trans (hb.mono (by simp))⟩
  · go_wp2_with fail
    go_ret
    exact ⟨_, rfl, by omega, by omega, h4, (Joins.below_alloc1 w _).trans (hb.mono (by simp))⟩
end Go.Proofs.YtenbhnfajjknkaaDoor

/- Contracts of single functions, and plain lemmas, on which the exact laws of this seat rest; each holds under the conditions that it states. -/
namespace Go.Proofs.YtenbhnfajjknkaaDoor
set_option linter.unusedVariables false
open Go.RowKit

/-- want, the argument's copy and got: each in a variable of its own, made one after the other -/
structure ThreePics (W : World) (b1 b2 b3 lo h2 h3 : Nat) (u v x : Value) (xs ys zs : List ByteArray) : Prop where
  c1 : W.heap[b1]? = some (.cells #[u] 30 (0, 0))
  c2 : W.heap[b2]? = some (.cells #[v] 30 (0, 0))
  c3 : W.heap[b3]? = some (.cells #[x] 30 (0, 0))
  o1 : OwnP W lo u xs
  o2 : OwnP W h2 v ys
  o3 : OwnP W h3 x zs
  lt1 : ∀ j, u.ownBlock = some j → j < h2
  lt2 : ∀ j, v.ownBlock = some j → j < h3
  le : h2 ≤ h3

variable {W W' : World} {b1 b2 b3 lo h2 h3 : Nat} {u v x : Value} {xs ys zs ms : List ByteArray}
theorem ThreePics.below (h : ThreePics W b1 b2 b3 lo h2 h3 u v x xs ys zs) (hb : Below W.heap.size W W') : ThreePics W' b1 b2 b3 lo h2 h3 u v x xs ys zs :=
  ⟨(hb.block _ (Array.getElem?_eq_some_iff.1 h.c1).1).trans h.c1, (hb.block _ (Array.getElem?_eq_some_iff.1 h.c2).1).trans h.c2, (hb.block _ (Array.getElem?_eq_some_iff.1 h.c3).1).trans h.c3, own_below h.o1 hb, own_below h.o2 hb, own_below h.o3 hb, h.lt1, h.lt2, h.le⟩

theorem ThreePics.mark2 (h : ThreePics W b1 b2 b3 lo h2 h3 u v x xs ys zs) (ho : OwnP W' h2 v ms) (hg : W.grownBy W' v.ownBlock) : ThreePics W' b1 b2 b3 lo h2 h3 u v x xs ms zs :=
  ⟨var_far h.c1 h.o2 (by decide) hg, var_far h.c2 h.o2 (by decide) hg, var_far h.c3 h.o2 (by decide) hg, own_apart (k := 0) h.o1 h.o2 h.lt1 hg, ho, own_apart' h.o3 h.o2 h.lt2 hg, h.lt1, h.lt2, h.le⟩
theorem ThreePics.mark3 (h : ThreePics W b1 b2 b3 lo h2 h3 u v x xs ys zs) (ho : OwnP W' h3 x ms) (hg : W.grownBy W' x.ownBlock) : ThreePics W' b1 b2 b3 lo h2 h3 u v x xs ys ms :=
  ⟨var_far h.c1 h.o3 (by decide) hg, var_far h.c2 h.o3 (by decide) hg, var_far h.c3 h.o3 (by decide) hg, own_apart (k := 0) h.o1 h.o3 (fun j hj => Nat.lt_of_lt_of_le (h.lt1 j hj) h.le) hg, own_apart (k := 0) h.o2 h.o3 h.lt2 hg, ho, h.lt1, h.lt2, h.le⟩
theorem ThreePics.v1 (h : ThreePics W b1 b2 b3 lo h2 h3 u v x xs ys zs) : W.cell? ⟨b1, 0, none⟩ = some u := cell_of_one h.c1
theorem ThreePics.v2 (h : ThreePics W b1 b2 b3 lo h2 h3 u v x xs ys zs) : W.cell? ⟨b2, 0, none⟩ = some v := cell_of_one h.c2
theorem ThreePics.v3 (h : ThreePics W b1 b2 b3 lo h2 h3 u v x xs ys zs) : W.cell? ⟨b3, 0, none⟩ = some x := cell_of_one h.c3
theorem ThreePics.grow2 {w : World} (h : ThreePics W b1 b2 b3 lo h2 h3 u v x xs ys zs) (hw : w.heap.size ≤ h2) (hb : Below w.heap.size w W) (hg : W.grownBy W' v.ownBlock) : Below w.heap.size w W' :=
  hb.grown hg hb.size (fun k hk => Nat.le_trans hw (h.o2.lt k hk).1)
theorem ThreePics.grow3 {w : World} (h : ThreePics W b1 b2 b3 lo h2 h3 u v x xs ys zs) (hw : w.heap.size ≤ h2) (hb : Below w.heap.size w W) (hg : W.grownBy W' x.ownBlock) : Below w.heap.size w W' :=
  hb.grown hg hb.size (fun k hk => Nat.le_trans (Nat.le_trans hw h.le) (h.o3.lt k hk).1)

/-- the third picture comes -/
theorem ThreePics.mk' {w2 w3 : World} {P Q : List ByteArray} (h : TwoPics (w2.alloc (.cells #[v] 30)) b1 b2 lo h2 u v P Q) (hle : h2 ≤ (w2.alloc (.cells #[v] 30)).heap.size) (h3' : OwnP w3 (w2.alloc (.cells #[v] 30)).heap.size x zs) (hb : Below (w2.alloc (.cells #[v] 30)).heap.size (w2.alloc (.cells #[v] 30)) w3) :
    ThreePics (w3.alloc (.cells #[x] 30)) b1 b2 w3.heap.size lo h2 (w2.heap.size + 1) u v x P Q zs := by
  have hb2 := hb.trans ((Joins.below_alloc1 w3 (.cells #[x] 30)).mono hb.size)
  have h' := h.below hb2
  refine ⟨h'.c1, h'.c2, heap_alloc_last w3 _, h'.o1, h'.o2, ?_, h.lt, fun j hj => ?_, by simpa using hle⟩
  · have := h3'.alloc (.cells #[x] 30)
    unfold OwnP
    simpa using this
  · have := (h.o2.lt j hj).2
    simpa using this
end Go.Proofs.YtenbhnfajjknkaaDoor

/- Contracts of single functions, and plain lemmas, on which the exact laws of this seat rest; each holds under the conditions that it states. -/
namespace Go.Proofs.YtenbhnfajjknkaaDoor
set_option linter.unusedVariables false
set_option linter.unusedSimpArgs false
open Go.RowKit

/-- want (in a slot), the argument's copy (in a variable) and got (in a slot) -/
structure SpN (W : World) (b2 lo h2 h3 : Nat) (u v x : Value) (xs : List Int) (ys : List ByteArray) (zs : List Int) : Prop where
  c2 : W.heap[b2]? = some (.cells #[v] 30 (0, 0))
  o1 : OwnN W lo u xs
  o2 : OwnP W h2 v ys
  o3 : OwnN W h3 x zs
  lt1 : ∀ j, u.ownBlock = some j → j < h2
  lt2 : ∀ j, v.ownBlock = some j → j < h3
  le : h2 ≤ h3
  lb : b2 < h3
section
variable {W W' : World} {b2 lo h2 h3 : Nat} {u v x : Value} {xs zs ns : List Int} {ys ms : List ByteArray}
theorem SpN.below (h : SpN W b2 lo h2 h3 u v x xs ys zs) (hb : Below W.heap.size W W') : SpN W' b2 lo h2 h3 u v x xs ys zs :=
  ⟨(hb.block _ (Array.getElem?_eq_some_iff.1 h.c2).1).trans h.c2, own_below h.o1 hb, own_below h.o2 hb, own_below h.o3 hb, h.lt1, h.lt2, h.le, h.lb⟩
theorem SpN.mark2 (h : SpN W b2 lo h2 h3 u v x xs ys zs) (ho : OwnP W' h2 v ms) (hg : W.grownBy W' v.ownBlock) : SpN W' b2 lo h2 h3 u v x xs ms zs :=
  ⟨var_far h.c2 h.o2 (by decide) hg, own_apart (k := 0) h.o1 h.o2 h.lt1 hg, ho, own_apart' h.o3 h.o2 h.lt2 hg, h.lt1, h.lt2, h.le, h.lb⟩
/-- a row that lies below abides -/
theorem own_under {W W' : World} {base n s h : Nat} {e : TypeId} {v : Value} {xs : List Value} (ho : W.ownsRow base e s v n xs) (hlt : ∀ j, v.ownBlock = some j → j < h) (hb : Below h W W') : W'.ownsRow base e s v n xs := by
  obtain ⟨h1, h2⟩ := ho
  refine ⟨h1, ?_⟩
  rcases h2 with h2 | ⟨g, cap, cur, hv, hg, hh, r⟩
  · exact Or.inl h2
  · exact Or.inr ⟨g, cap, cur, hv, hg, by rw [hb.block g (hlt g (by subst hv; rfl))]; exact hh, r⟩
theorem SpN.mark3 (h : SpN W b2 lo h2 h3 u v x xs ys zs) (ho : OwnN W' h3 x ns) (hg : Below h3 W W') : SpN W' b2 lo h2 h3 u v x xs ys ns :=
  ⟨(hg.block _ h.lb).trans h.c2, own_under h.o1 (fun j hj => Nat.lt_of_lt_of_le (h.lt1 j hj) h.le) hg, own_under h.o2 h.lt2 hg, ho, h.lt1, h.lt2, h.le, h.lb⟩
theorem SpN.v2 (h : SpN W b2 lo h2 h3 u v x xs ys zs) : W.cell? ⟨b2, 0, none⟩ = some v := cell_of_one h.c2
theorem SpN.grow2 {w : World} (h : SpN W b2 lo h2 h3 u v x xs ys zs) (hw : w.heap.size ≤ h2) (hb : Below w.heap.size w W) (hg : W.grownBy W' v.ownBlock) : Below w.heap.size w W' :=
  hb.grown hg hb.size (fun k hk => Nat.le_trans hw (h.o2.lt k hk).1)
theorem SpN.grow3 {w : World} (h : SpN W b2 lo h2 h3 u v x xs ys zs) (hw : w.heap.size ≤ h2) (hb : Below w.heap.size w W) (hg : Below h3 W W') : Below w.heap.size w W' :=
  hb.trans (hg.mono (Nat.le_trans hw h.le))
theorem own_formN {base : Nat} {ns : List Int} (h : OwnN W base v ns) : ∃ ao n cap, v = .slice ao n cap := by
  rcases Joins.ownsRow_forms h with ⟨rfl, _⟩ | ⟨g, cap, rfl⟩
  · exact ⟨_, _, _, rfl⟩
  · exact ⟨_, _, _, rfl⟩
end

set_option maxHeartbeats 4000000 in
set_option maxRecDepth 100000 in
theorem law_SizesOf (v : Value) (ss : List ByteArray) (w : World) (hN : ss.length ≤ maxLen) (hz : ∀ s ∈ ss, s.size ≤ maxLen) (hv : Sl w v ss) (he : ErrLen w) :
    Calls Tryd.prog 8 #[.agg #[v]] w fun e w' => e = .returned (.bool true) ∧ Below w.heap.size w w' := by
  obtain ⟨P, ok, hPl, hS, hI⟩ : ∃ (P : List Int) (ok : Bool), P.length ≤ 5 ∧ (∀ u W, Sl W u ss → Calls Tryd.prog 30 #[.agg #[u]] W (SaysN P ok W)) ∧ (∀ u W, Sl W u ss → ErrLen W → Calls Tryd.prog 31 #[.agg #[u]] W (SaysN P ok W)) :=
    ⟨szV ss, validB ss, szV_len ss, fun u W hu => spec_Sizes u ss W hN hz hu, fun u W hu hw  => impl_Sizes u ss W hN hz hu hw⟩
  have CS := Lib.hid hS
  have CI := Lib.hid hI
  have HSL : Hid (∀ W, Below w.heap.size w W → Sl W v ss) := fun W hb => hv.below hb
  have HEL : Hid (∀ W, Below w.heap.size w W → ErrLen W) := fun W hb => he.below hb
  have b0 := Joins.below_alloc1 w (.cells #[v] 24)
  have hc0 : (w.alloc (.cells #[v] 24)).cell? ⟨w.heap.size, 0, none⟩ = some v := by rw [World.cell?_alloc_mark]; rfl
  have C0 := Lib.hid (szPicture_any v ss 1048576 (w.alloc (.cells #[v] 24)) (by omega) (by omega) hN hz (HSL.out _ b0))
  have B0 := Lib.hid b0
  obtain ⟨m, hm0, hM, hH⟩ : ∃ m : Int, 0 ≤ m ∧ (∀ v base W, OwnN W base v P → Calls Tryd.prog 33 #[v, .int .i64 1] W (fun e w' => e = .returned (.int .i64 m) ∧ OwnN w' base v (marksN 1 P.length) ∧ Below base W w')) ∧ (∀ v W, SlN W v (marksN 1 P.length) → Calls Tryd.prog 34 #[v, .int .i64 1] W (fun e w' => e = .returned (.int .i64 m) ∧ Below W.heap.size W w')) :=
    ⟨((1 + P.length : Nat) : Int), by omega, fun v base W h => markInt64N base v P 1 W (by omega) (by omega) h, fun v W h => heldInt64N v P.length 1 W (by omega) (by omega) h⟩
  have CM := Lib.hid hM
  have CH := Lib.hid hH
  have CE : Hid (∀ u v W, SlN W u P → SlN W v P → Calls Tryd.prog 32 #[u, v] W (fun e w' => e = .returned (.bool true) ∧ Below W.heap.size W w')) := fun u v W hu hv => eqInt64N u v P W (by unfold maxLen; omega) hu hv
  have CEs : Hid (∀ u v W, Sl W u ss → Sl W v ss → Calls Tryd.prog 17 #[.agg #[u], .agg #[v]] W (SaysB true W)) := fun u v W hu hv => by
    have := eqPicture_any u v ss ss W hN hN hu hv
    rwa [sameL_self] at this
  clear hS hI hM hH hv he b0
  go_enter Tryd.func8, Tryd.ntmps8
  go_wp2_with fail
  refine C0.out.mono ?_
  rintro e w1 ⟨r, rfl, hr1, hr2, hr3, hb1⟩
  by_cases hr : r < 0
  · have HB1 := Lib.hid hb1
    clear hb1 hr3
    go_wp2_with fail
    go_ret
    exact ⟨rfl, B0.out.trans (HB1.out.mono (by simp))⟩
  · have hsm : ss.length ≤ 1048576 := by have := (hr3 (by omega)).1; omega
    have hc1 := cell_kept hb1 hc0
    have B1 : Hid (Below w.heap.size w w1) := B0.out.trans (hb1.mono (by simp))
    have l1 : w.heap.size < w1.heap.size := by have := hb1.size; simp at this; omega
    obtain ⟨m2, hm2, hM2⟩ : ∃ m : Int, 0 ≤ m ∧ (∀ v base W, OwnP W base v ss → Calls Tryd.prog 19 #[.agg #[v], .int .i64 1] W (fun e w' => e = .returned (.int .i64 m) ∧ OwnP w' base v (marks 1 ss.length) ∧ W.grownBy w' v.ownBlock)) :=
      ⟨((1 + ss.length : Nat) : Int), by omega, fun v base W h => markPicture_any v ss base 1 W (by omega) (by omega) h⟩
    have CM2 := Lib.hid hM2
    clear hb1 hr3 hr2 hr1 hc0 hM2
    go_wp2_with fail
    refine (toPicture_any v ss _ hsm (HSL.out _ B1.out)).mono ?_
    rintro e w2 ⟨g2, cap2, rfl, hown2, hb2⟩
    have hc2 := cell_kept hb2 hc1
    have B2 : Hid (Below w.heap.size w w2) := B1.out.trans (hb2.mono B1.out.size)
    have l2 : w.heap.size < w2.heap.size := Nat.lt_of_lt_of_le l1 hb2.size
    have S2 := Lib.hid hown2.sl
    clear hb2 hown2 hc1
    go_wp2_with fail
    refine (CS.out _ _ S2.out).mono ?_
    rintro e w3 ⟨v3, rfl, h3, hb3⟩
    obtain ⟨ao3, n3, cap3, rfl⟩ := own_formN h3
    have hc3 := cell_kept hb3 hc2
    have B3 : Hid (Below w.heap.size w w3) := B2.out.trans (hb3.mono B2.out.size)
    have O3 := Lib.hid h3
    have l3 : w.heap.size < w3.heap.size := Nat.lt_of_lt_of_le l2 hb3.size
    clear hb3 h3 hc2 S2
    go_wp2_with fail
    refine (toPicture_any v ss _ hsm (HSL.out _ B3.out)).mono ?_
    rintro e w4 ⟨g4, cap4, rfl, hown4, hb4⟩
    have ba := Joins.below_alloc1 w4 (.cells #[.slice (some ⟨g4, 0, none⟩) ss.length cap4] 30)
    have hc4 := cell_kept ba (cell_kept hb4 hc3)
    have B4 : Hid (Below w.heap.size w (w4.alloc (.cells #[.slice (some ⟨g4, 0, none⟩) ss.length cap4] 30))) := (B3.out.trans (hb4.mono B3.out.size)).alloc (Nat.le_trans B3.out.size hb4.size) _
    have l4 : w3.heap.size ≤ w4.heap.size := hb4.size
    have p1 := Lib.hid (own_below (own_below O3.out hb4) ba)
    have p2 := Lib.hid (own_below hown4 ba)
    have p3 : Hid (∀ j, (Value.slice ao3 n3 cap3).ownBlock = some j → j < w3.heap.size) := fun j hj => (O3.out.lt j hj).2
    have p4 : Hid (∀ j, (Value.slice (some ⟨g4, 0, none⟩) ss.length cap4).ownBlock = some j → j < w4.heap.size + 1) := fun j hj => Nat.lt_succ_of_lt (hown4.lt j hj).2
    have e4 : (w4.alloc (.cells #[.slice (some ⟨g4, 0, none⟩) ss.length cap4] 30)).cell? ⟨w4.heap.size, 0, none⟩ = some (.slice (some ⟨g4, 0, none⟩) ss.length cap4) := cell_of_one (heap_alloc_last w4 _)
    clear hb4 hown4 hc3 ba O3
    go_wp2_with fail
    refine (CI.out _ _ (OwnP.sl p2.out) (HEL.out _ B4.out)).mono ?_
    rintro e w5 ⟨v5, rfl, h5, hb5⟩
    obtain ⟨ao5, n5, cap5, rfl⟩ := own_formN h5
    have T5 : Hid (SpN w5 w4.heap.size w2.heap.size w3.heap.size (w4.heap.size + 1) (.slice ao3 n3 cap3) (.slice (some ⟨g4, 0, none⟩) ss.length cap4) (.slice ao5 n5 cap5) P ss P) :=
      ⟨(hb5.block _ (by simp)).trans (heap_alloc_last w4 _), own_below p1.out hb5, own_below p2.out hb5, by have := h5; unfold OwnN at this ⊢; simpa using this, p3.out, p4.out, by omega, by omega⟩
    have B5 : Hid (Below w.heap.size w w5) := B4.out.trans (hb5.mono B4.out.size)
    have hc5 := cell_kept hb5 hc4
    have hlo : w.heap.size ≤ w3.heap.size := by omega
    clear hb5 h5 hc4 e4 p1 p2 p3 p4
    go_wp2_with fail
    refine (CE.out _ _ _ T5.out.o3.sl T5.out.o1.sl).mono ?_
    rintro e w6 ⟨rfl, hb6⟩
    have T6 := Lib.hid (T5.out.below hb6)
    have B6 := Lib.hid (B5.out.trans (hb6.mono B5.out.size))
    have hc6 := cell_kept hb6 hc5
    have HX : Hid (∀ W, Below w6.heap.size w6 W → W.cell? ⟨w.heap.size, 0, none⟩ = some v ∧ W.cell? ⟨w4.heap.size, 0, none⟩ = some (.slice (some ⟨g4, 0, none⟩) ss.length cap4)) := fun W hb => ⟨cell_kept hb hc6, (T6.out.below hb).v2⟩
    have HT : Hid (∀ W, Below w6.heap.size w6 W → Calls Tryd.prog 14 #[.agg #[v]] W (TookPic W ss)) := fun W hb => toPicture_any v ss W hsm (HSL.out _ (B6.out.trans (hb.mono B6.out.size)))
    have HE : Hid (∀ W v3, Below w6.heap.size w6 W → Sl W v3 ss → Calls Tryd.prog 17 #[.agg #[.slice (some ⟨g4, 0, none⟩) ss.length cap4], .agg #[v3]] W (SaysB true W)) := fun W v3 hb h3 => CEs.out _ v3 W (OwnP.sl (T6.out.below hb).o2) h3
    clear hb6 hc5
    go_wp2_with fail
    go_region_held3 (fun w' => w'.cell? ⟨w.heap.size, 0, none⟩ = some v ∧ w'.cell? ⟨w4.heap.size, 0, none⟩ = some (.slice (some ⟨g4, 0, none⟩) ss.length cap4))
      (first | exact HX.out _ (Below.refl _ _) | exact HX.out _ (Below.refl _ _).drew | exact HX.out _ ((Below.refl _ _).drew.trans hb7) | exact HX.out _ (((Below.refl _ _).drew.trans hb7).trans (hb8.mono hb7.size)))
      (first | (go_at_call 14; refine (HT.out _ (Below.refl _ _).drew).mono ?_; rintro e w7 ⟨g7, cap7, rfl, hown7, hb7⟩) | (go_at_call 17; refine (HE.out _ _ ((Below.refl _ _).drew.trans hb7) hown7.sl).mono ?_; rintro e w8 ⟨rfl, hb8⟩))
    have hb68 := (Below.refl w6.heap.size w6).drew.trans (hb7.trans (hb8.mono hb7.size))
    have T8 := Lib.hid (T6.out.below hb68)
    have B8 : Hid (Below w.heap.size w w8) := B6.out.trans (hb68.mono B6.out.size)
    have hc8 := cell_kept hb68 hc6
    have y2 := T8.out.v2
    clear hb7 hb8 hb68 hown7 hc6 HX HT HE
    go_wp2_with fail
    refine (CM2.out _ _ _ T8.out.o2).mono ?_
    rintro e w9 ⟨rfl, ho9, hg9⟩
    have T9 := Lib.hid (T8.out.mark2 ho9 hg9)
    have B9 := Lib.hid (T8.out.grow2 hlo B8.out hg9)
    have hc9 : w9.cell? ⟨w.heap.size, 0, none⟩ = some v := by
      rw [World.cell?_of_block (hg9.block w.heap.size (blk_lt hc8) (fun e1 => by have := (T8.out.o2.lt _ e1.symm).1; omega))]; exact hc8
    clear ho9 hg9 y2 hc8
    go_wp2_with fail
    refine (CE.out _ _ _ T9.out.o3.sl T9.out.o1.sl).mono ?_
    rintro e w10 ⟨rfl, hb10⟩
    have T10 := Lib.hid (T9.out.below hb10)
    have B10 := Lib.hid (B9.out.trans (hb10.mono B9.out.size))
    have hc10 := cell_kept hb10 hc9
    clear hb10 hc9
    go_wp2_with fail
    refine (CM.out _ _ _ T10.out.o3).mono ?_
    rintro e w11 ⟨rfl, ho11, hg11⟩
    have T11 := Lib.hid (T10.out.mark3 ho11 hg11)
    have B11 := Lib.hid (T10.out.grow3 hlo B10.out hg11)
    have hc11 : w11.cell? ⟨w.heap.size, 0, none⟩ = some v := by
      rw [World.cell?_of_block (hg11.block w.heap.size (by have := T10.out.le; have := l3; omega))]; exact hc10
    clear ho11 hg11 hc10
    go_wp2_with fail
    refine (CH.out _ _ T11.out.o3.sl).mono ?_
    rintro e w12 ⟨rfl, hb12⟩
    have T12 := Lib.hid (T11.out.below hb12)
    have B12 := Lib.hid (B11.out.trans (hb12.mono B11.out.size))
    have hc12 := cell_kept hb12 hc11
    clear hb12 hc11
    go_wp2_with fail
    refine (toPicture_any v ss _ hsm (HSL.out _ B12.out)).mono ?_
    rintro e w13 ⟨g13, cap13, rfl, hown13, hb13⟩
    have T13 := Lib.hid (T12.out.below hb13)
    have B13 := Lib.hid (B12.out.trans (hb13.mono B12.out.size))
    have S13 := Lib.hid hown13.sl
    clear hb13 hown13 hc12
    go_wp2_with fail
    refine (CI.out _ _ S13.out (HEL.out _ B13.out)).mono ?_
    rintro e w14 ⟨v14, rfl, h14, hb14⟩
    obtain ⟨ao14, n14, cap14, rfl⟩ := own_formN h14
    have T14 := Lib.hid (T13.out.below hb14)
    have B14 : Hid (Below w.heap.size w w14) := B13.out.trans (hb14.mono B13.out.size)
    have O14 := Lib.hid (OwnN.sl h14)
    clear h14 hb14
    go_wp2_with fail
    refine (CE.out _ _ _ O14.out T14.out.o1.sl).mono ?_
    rintro e w15 ⟨rfl, hb15⟩
    have T15 := Lib.hid (T14.out.below hb15)
    have B15 := Lib.hid (B14.out.trans (hb15.mono B14.out.size))
    clear hb15
    go_wp2_with fail
    refine (CH.out _ _ T15.out.o3.sl).mono ?_
    rintro e w16 ⟨rfl, hb16⟩
    have B16 := Lib.hid (B15.out.trans (hb16.mono B15.out.size))
    clear hb16
    go_wp2
    go_ret
    exact ⟨rfl, B16.out⟩
end Go.Proofs.YtenbhnfajjknkaaDoor
