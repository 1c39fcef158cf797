/- Contracts of single functions, and plain lemmas, on which the exact laws of this seat rest; each holds under the conditions that it states. -/
import Derived.Test.YtabkkpifkkgpeaaDoorQa
import Derived.Test.YtabkkpifkkgpeaaDoorAh
import Derived.Test.YtabkkpifkkgpeaaDoorRc
import Derived.Deep.RegionHeld3
import Derived.RegionTactic
import Derived.BigRegion
import Derived.Deep.RegionWith
import Derived.Test.YtabkkpifkkgpeaaDoorAn
import Derived.Test.YtabkkpifkkgpeaaDoorAr
import Derived.Test.YtabkkpifkkgpeaaDoorSE
namespace Go.Proofs.YtabkkpifkkgpeaaDoor
set_option linter.unusedVariables false
set_option linter.unusedSimpArgs false
open Go.RowKit

/-! ### an argument that is a slice of spots -/
/-- the spots xs lie in w from block b, cell off on -/
def SpotsAt (w : World) (b off : Nat) (xs : List (Int × Int)) : Prop := b < w.heap.size ∧ ∀ i, i < xs.length → w.cell? ⟨b, off + i * 2, none⟩ = some (.int .i64 (xs.getD i (0, 0)).1) ∧ w.cell? ⟨b, off + i * 2 + 1, none⟩ = some (.int .i64 (xs.getD i (0, 0)).2)
theorem SpotsAt.below {w w' : World} {b off : Nat} {xs : List (Int × Int)} (h : SpotsAt w b off xs) (hb : Below w.heap.size w w') : SpotsAt w' b off xs :=
  ⟨Nat.lt_of_lt_of_le h.1 hb.size, fun i hi => ⟨cell_kept hb (h.2 i hi).1, cell_kept hb (h.2 i hi).2⟩⟩
def SlA (w : World) (v : Value) (xs : List (Int × Int)) : Prop :=
  (∃ ao cap, v = .slice ao 0 cap ∧ xs = []) ∨ (∃ b off cap, v = .slice (some ⟨b, off, none⟩) xs.length cap ∧ 0 < xs.length ∧ SpotsAt w b off xs)
theorem SlA.below {w w' : World} {v : Value} {xs : List (Int × Int)} (h : SlA w v xs) (hb : Below w.heap.size w w') : SlA w' v xs := by
  rcases h with h | ⟨b, off, cap, h1, h2, h3⟩
  · exact Or.inl h
  · exact Or.inr ⟨b, off, cap, h1, h2, h3.below hb⟩

/-- the first c cells are copied -/
def part2 (xs : List (Int × Int)) (n c : Nat) : List Value := (List.range (n * 2)).map fun j => if j < c then Value.int .i64 (spotC xs j) else Value.int .i64 0
theorem part2_full (xs : List (Int × Int)) (n : Nat) (h : xs.length = n) : part2 xs n (n * 2) = flat2 xs := by
  unfold part2 flat2
  rw [h]
  apply List.map_congr_left
  intro j hj
  simp only [List.mem_range] at hj
  rw [if_pos hj]
theorem part2_set (xs : List (Int × Int)) (n c : Nat) : (part2 xs n c).set c (.int .i64 (spotC xs c)) = part2 xs n (c + 1) := by
  unfold part2
  rw [set_map_range]
  apply List.map_congr_left
  intro j hj
  by_cases h1 : j = c
  · subst h1; simp
  · by_cases h2 : j < c
    · simp [h1, h2, show j < c + 1 from by omega]
    · simp [h1, h2, show ¬ j < c + 1 from by omega]
theorem part2_at (xs : List (Int × Int)) (n c : Nat) (h : c < n * 2) : (part2 xs n c)[c]? = some (.int .i64 0) := by
  unfold part2
  simp [h]
theorem part2_zero (xs : List (Int × Int)) (n : Nat) : (madeCells #[.int .i64 0, .int .i64 0] (n * 2)).toList = part2 xs n 0 := by
  unfold madeCells part2
  simp only [Nat.not_lt_zero, if_false]
  simp only [Array.toList_map, Array.toList_range]
  apply List.map_congr_left
  intro j hj
  have : j % 2 < 2 := Nat.mod_lt _ (by omega)
  show (#[Value.int .i64 0, Value.int .i64 0] : Array Value)[j % 2]! = _
  rcases Nat.mod_two_eq_zero_or_one j with h | h <;> rw [h] <;> rfl

/-- a copy of spots of the call's own -/
def TookSp (w : World) (n : Nat) (xs : List (Int × Int)) (e : Ending) (w' : World) : Prop := e = .returned (.slice (some ⟨w.heap.size, 0, none⟩) n n) ∧ OwnS w' w.heap.size (.slice (some ⟨w.heap.size, 0, none⟩) n n) xs ∧ Below w.heap.size w w'

end Go.Proofs.YtabkkpifkkgpeaaDoor

/- Contracts of single functions, and plain lemmas, on which the exact laws of this seat rest; each holds under the conditions that it states. -/
namespace Go.Proofs.YtabkkpifkkgpeaaDoor
set_option linter.unusedVariables false
set_option linter.unusedSimpArgs false
open Go.RowKit

/-- a copy of an element -/
def TookEl (w : World) (xs : List (Int × Int)) (e : Ending) (w' : World) : Prop := ∃ g cap, e = .returned (.agg #[.slice (some ⟨g, 0, none⟩) xs.length cap]) ∧ OwnS w' w.heap.size (.slice (some ⟨g, 0, none⟩) xs.length cap) xs ∧ Below w.heap.size w w'

end Go.Proofs.YtabkkpifkkgpeaaDoor

/- Contracts of single functions, and plain lemmas, on which the exact laws of this seat rest; each holds under the conditions that it states. -/
namespace Go.Proofs.YtabkkpifkkgpeaaDoor
set_option linter.unusedVariables false
set_option linter.unusedSimpArgs false
open Go.RowKit

theorem own_len {w : World} {base g n cap : Nat} {xs : List (Int × Int)} (h : OwnS w base (.slice (some ⟨g, 0, none⟩) n cap) xs) : n = xs.length := by
  rcases h.2 with ⟨h1, _⟩ | ⟨g', c', cur, h1, _⟩
  · cases h1
  · cases h1; rfl
theorem ElSt.start2 {w w1 : World} {R : Nat} (hR : w1.heap[R]? = some (.cells #[.slice none 0 0] 46 (0, 0))) (hb : Below w.heap.size w w1) (hge : w.heap.size ≤ R) :
    ElSt w ((w1.alloc (.cells #[] 29)).alloc (.cells #[.slice (some ⟨w1.heap.size, 0, none⟩) 0 0] 46)) R (w1.heap.size + 1) (.slice (some ⟨w1.heap.size, 0, none⟩) 0 0) [] := by
  have lR := (Array.getElem?_eq_some_iff.1 hR).1
  refine ⟨?_, ?_, ?_, (hb.alloc hb.size _).alloc (by simp; have := hb.size; omega) _, by have := hb.size; omega, hge, by omega⟩
  · rw [Below.heap_alloc _ _ _ (by simp; omega), Below.heap_alloc _ _ _ lR]; exact hR
  · have := heap_alloc_last (w1.alloc (.cells #[] 29)) (.cells #[.slice (some ⟨w1.heap.size, 0, none⟩) 0 0] 46)
    rwa [World.size_alloc] at this
  · have := World.ownsRow_lit (base := w.heap.size) (e := 29) (size := 2) w1 #[] 0 hb.size (by unfold maxLen; omega) rfl
    exact World.ownsRow.alloc this _

theorem ElSt.put {w W W' : World} {R B g n cap g' n' cap' : Nat} {L L' : List (Int × Int)} (h : ElSt w W R B (.slice (some ⟨g, 0, none⟩) n cap) L)
    (ho : OwnS W' w.heap.size (.slice (some ⟨g', 0, none⟩) n' cap') L') (hg : W.grownBy W' (some g)) :
    W'.heap[B]? = some (.cells #[.slice (some ⟨g, 0, none⟩) n cap] 46 (0, 0)) ∧ ElSt w (W'.setCell ⟨B, 0, none⟩ (.slice (some ⟨g', 0, none⟩) n' cap')) R B (.slice (some ⟨g', 0, none⟩) n' cap') L' := by
  have hb := var_far h.b h.own (by decide) hg
  have hr := var_far h.r h.own (by decide) hg
  have hbel : Below w.heap.size w W' := h.bel.grown hg h.bel.size (fun k hk => by cases hk; exact (h.own.lt g rfl).1)
  exact ⟨hb, ⟨(Below.heap_setCell _ _ _ _ (by exact h.ne)).trans hr, one_setCell hb, own_set ho hb (by decide), hbel.setCell h.geB _, h.geB, h.geR, h.ne⟩⟩
end Go.Proofs.YtabkkpifkkgpeaaDoor

/- Contracts of single functions, and plain lemmas, on which the exact laws of this seat rest; each holds under the conditions that it states. -/
namespace Go.Proofs.YtabkkpifkkgpeaaDoor
set_option linter.unusedVariables false
set_option linter.unusedSimpArgs false
open Go.RowKit
attribute [local go_sem] Oper.semAt_some

theorem own_farG {W W' : World} {base n s l r : Nat} {e : TypeId} {v : Value} {xs : List Value} (h : W.ownsRow base e s v n xs) (hf : Far l r W W') (hr : ∀ j, v.ownBlock = some j → j < l ∨ r ≤ j) : W'.ownsRow base e s v n xs := by
  refine ⟨h.1, ?_⟩
  rcases h.2 with h2 | ⟨g, cap, cur, hv, hb, hg, rest⟩
  · exact Or.inl h2
  · subst hv
    exact Or.inr ⟨g, cap, cur, rfl, hb, hf.cells hg (hr g rfl), rest⟩
/-- an element that is being drawn: its row, its variable, the result's, the source -/
structure EDr (w W : World) (p B g n cap : Nat) (xs : List (Int × Int)) (v : Value) (ns : List Nat) (m : Nat) : Prop where
  own : OwnS W (p + 1) (.slice (some ⟨g, 0, none⟩) n cap) xs
  b : W.heap[B]? = some (.cells #[.slice (some ⟨g, 0, none⟩) n cap] 46 (0, 0))
  r : W.heap[w.heap.size]? = some (.cells #[.slice none 0 0] 46 (0, 0))
  src : Src W p v ns m
  bel : Below w.heap.size w W
  gtB : p < B
  gtR : w.heap.size < p
section
variable {w W W' : World} {p B g n cap m m' : Nat} {xs : List (Int × Int)} {v : Value} {ns : List Nat}
theorem EDr.draw (h : EDr w W p B g n cap xs v ns m) (hd : Drew p v ns m' W W') : EDr w W' p B g n cap xs v ns m' := by
  have h1 := h.gtB
  have h2 := h.gtR
  exact ⟨own_farr h.own hd.2 (Nat.le_refl _), hd.2.cells h.b (by omega), hd.2.cells h.r (by omega), hd.1, hd.2.bel h.bel (Or.inl (by omega)) (Nat.le_refl _), h.gtB, h.gtR⟩
theorem EDr.below (h : EDr w W p B g n cap xs v ns m) (hb : Below W.heap.size W W') : EDr w W' p B g n cap xs v ns m :=
  ⟨own_below h.own hb, (hb.block B (Array.getElem?_eq_some_iff.1 h.b).1).trans h.b, (hb.block _ (Array.getElem?_eq_some_iff.1 h.r).1).trans h.r, h.src.bel hb h.src.lt, h.bel.trans (hb.mono h.bel.size), h.gtB, h.gtR⟩
theorem EDr.lt (h : EDr w W p B g n cap xs v ns m) : p < g ∧ g < W.heap.size := ⟨(h.own.lt g rfl).1, (h.own.lt g rfl).2⟩
theorem EDr.poke (h : EDr w W p B g n cap xs v ns m) (c i : Nat) (x : Value) (h1 : c ≠ g) (h2 : c ≠ B) (h3 : p < c) : EDr w (W.setCell ⟨c, i, none⟩ x) p B g n cap xs v ns m := by
  have h4 := h.gtR
  have hb : Below (p + 1) W (W.setCell ⟨c, i, none⟩ x) := (Below.refl (p + 1) W).setCell (p := ⟨c, i, none⟩) (by show p + 1 ≤ c; omega) _
  refine ⟨own_farG h.own (l := c) (r := c + 1) ⟨rfl, rfl, rfl, by simp [World.setCell], fun k hk hd => Below.heap_setCell W ⟨c, i, none⟩ x k (by show k ≠ c; omega)⟩ (fun j hj => by
    have : j = g := by simpa [Value.ownBlock] using hj.symm
    omega), (Below.heap_setCell W ⟨c, i, none⟩ x B (by show B ≠ c; omega)).trans h.b, (Below.heap_setCell W ⟨c, i, none⟩ x _ (by show w.heap.size ≠ c; omega)).trans h.r, h.src.bel hb (by omega), h.bel.setCell (p := ⟨c, i, none⟩) (by show w.heap.size ≤ c; omega) _, h.gtB, h.gtR⟩
theorem EDr.put {g' n' cap' : Nat} {ys : List (Int × Int)} (h : EDr w W p B g n cap xs v ns m) (ho : OwnS W' (p + 1) (.slice (some ⟨g', 0, none⟩) n' cap') ys) (hg : W.grownBy W' (some g)) :
    W'.heap[B]? = some (.cells #[.slice (some ⟨g, 0, none⟩) n cap] 46 (0, 0)) ∧ EDr w (W'.setCell ⟨B, 0, none⟩ (.slice (some ⟨g', 0, none⟩) n' cap')) p B g' n' cap' ys v ns m := by
  have hb := var_far h.b h.own (by decide) hg
  have hr := var_far h.r h.own (by decide) hg
  have h1 := h.gtB
  have h2 := h.gtR
  have hl := h.lt
  have hsz := h.src.lt
  have hbp : Below (p + 1) W W' := (Below.refl (p + 1) W).grown hg (by omega) (fun k hk => by cases hk; omega)
  have hbel : Below w.heap.size w W' := h.bel.grown hg h.bel.size (fun k hk => by cases hk; omega)
  have hbs : Below (p + 1) W' (W'.setCell ⟨B, 0, none⟩ (.slice (some ⟨g', 0, none⟩) n' cap')) := (Below.refl (p + 1) W').setCell (p := ⟨B, 0, none⟩) (by show p + 1 ≤ B; omega) _
  exact ⟨hb, ⟨own_set ho hb (by decide), one_setCell hb, (Below.heap_setCell _ _ _ _ (by show w.heap.size ≠ B; omega)).trans hr, (h.src.bel hbp (by omega)).bel hbs (by omega), hbel.setCell (p := ⟨B, 0, none⟩) (by show w.heap.size ≤ B; omega) _, h.gtB, h.gtR⟩⟩
theorem EDr.more (h : EDr w W p B g n cap xs v ns m) (hm : m ≤ m') : EDr w W p B g n cap xs v ns m' := ⟨h.own, h.b, h.r, h.src.more hm, h.bel, h.gtB, h.gtR⟩
end

/-- a fresh valid element with small offsets -/
def SomeEl (w : World) (e : Ending) (w' : World) : Prop :=
  ∃ (g cap : Nat) (xs : List (Int × Int)), e = .returned (.agg #[.slice (some ⟨g, 0, none⟩) xs.length cap]) ∧ OwnS w' w.heap.size (.slice (some ⟨g, 0, none⟩) xs.length cap) xs ∧ Below w.heap.size w w' ∧ elB xs = true ∧ xs.length ≤ 4 ∧ ∀ q ∈ xs, (-2 ≤ q.1 ∧ q.1 ≤ 2) ∧ (-2 ≤ q.2 ∧ q.2 ≤ 2)

set_option maxHeartbeats 2000000 in
set_option maxRecDepth 100000 in
theorem B10Element_any (v : Value) (ns : List Nat) (w : World) (hv : SlY w v ns) (hby : ∀ i, ns.getD i 0 < 256) (hN : ns.length ≤ maxLen) :
    Calls Tryd.prog 21 #[v] w (SomeEl w) := by
  have hbA := Joins.below_alloc1 w (.cells #[.slice none 0 0] 46)
  have hpA := heap_alloc_last w (.cells #[.slice none 0 0] 46)
  obtain ⟨W0, hW0⟩ : ∃ W0, w.alloc (.cells #[.slice none 0 0] 46) = W0 := ⟨_, rfl⟩
  have hs0 : W0.heap.size = w.heap.size + 1 := by rw [← hW0]; simp
  rw [hW0] at hbA hpA
  have CF := Lib.hid (from_any v ns W0 (hv.below hbA) hby hN)
  have HW := Lib.hid hW0
  obtain ⟨ao, cap0, rfl⟩ := hv.form
  clear hv hW0 hby
  go_enter Tryd.func21, Tryd.ntmps21
  go_wp2_with fail
  rw [HW.out]
  refine CF.out.mono ?_
  rintro e wB ⟨rfl, hS, hb⟩
  have hpB : wB.heap[w.heap.size]? = some (.cells #[.slice none 0 0] 46 (0, 0)) := (hb.block _ (by omega)).trans hpA
  have hbB := hbA.trans (hb.mono (by omega))
  have hl := hS.lt
  obtain ⟨p, hp⟩ : ∃ p, W0.heap.size = p := ⟨_, rfl⟩
  rw [hp] at hS hl ⊢
  have hpw : w.heap.size < p := by omega
  have HD0 : Hid (EDr w ((wB.alloc (.cells #[] 29)).alloc (.cells #[.slice (some ⟨wB.heap.size, 0, none⟩) 0 0] 46)) p (wB.heap.size + 1) wB.heap.size 0 0 [] (.slice ao ns.length cap0) ns 0) := by
    have h2 := Joins.below_alloc2 wB (.cells #[] 29) (.cells #[.slice (some ⟨wB.heap.size, 0, none⟩) 0 0] 46)
    refine ⟨?_, ?_, (h2.block _ (by omega)).trans hpB, hS.bel h2 hl, hbB.trans (h2.mono hbB.size), by omega, hpw⟩
    · have := World.ownsRow_lit (base := p + 1) (e := 29) (size := 2) wB #[] 0 hl (by unfold maxLen; omega) rfl
      exact World.ownsRow.alloc this _
    · have := heap_alloc_last (wB.alloc (.cells #[] 29)) (.cells #[.slice (some ⟨wB.heap.size, 0, none⟩) 0 0] 46)
      rwa [World.size_alloc] at this
  clear hb hbB hbA hpA hpB hs0 CF hS hp
  obtain ⟨W1, hW1⟩ : ∃ W, ((wB.alloc (.cells #[] 29)).alloc (.cells #[.slice (some ⟨wB.heap.size, 0, none⟩) 0 0] 46)) = W := ⟨_, rfl⟩
  obtain ⟨g0, hg0⟩ : ∃ g, wB.heap.size = g := ⟨_, rfl⟩
  rw [hW1, hg0] at HD0
  have HW1 := Lib.hid hW1
  have HG0 := Lib.hid hg0
  clear hW1 hg0 hl
  go_upto_region 3 with fail
  rw [HW1.out, HG0.out]
  obtain ⟨B, hB⟩ : ∃ B, g0 + 1 = B := ⟨_, rfl⟩
  rw [hB] at HD0 ⊢
  clear hB
  go_wp2_with fail
  refine (pick_any p _ ns 0 4 _ HD0.out.src (by omega) (by omega)).mono ?_
  rintro e wC ⟨⟨r, hr, rfl⟩, hd⟩
  have HD1 := Lib.hid (HD0.out.draw hd)
  have hr3 : r ≤ 3 := by omega
  clear hd HD0 hr
  go_wp2_with fail
  go_loopw [5] (fun kv wr => ∃ (k g n cap m : Nat) (xs : List (Int × Int)), k ≤ 4 ∧ kv = .int .i64 (k : Int) ∧ m ≤ 1 + 2 * (4 - k) ∧ xs.length + k ≤ 4 ∧ (k = 0 → 1 ≤ xs.length) ∧ Hid (Srt xs) ∧ Hid (∀ q ∈ xs, (-2 ≤ q.1 ∧ q.1 ≤ 2) ∧ (-2 ≤ q.2 ∧ q.2 ≤ 2)) ∧ Hid (EDr w wr p B g n cap xs (.slice ao ns.length cap0) ns m)) (fun kv _ => (intOf kv).toNat)
  case atStart => exact ⟨r + 1, g0, 0, 0, _, [], by omega, by go_num, by omega, by simp; omega, by omega, Lib.hid (by unfold Srt; simp), Lib.hid (fun q hq => by cases hq), HD1⟩
  case round =>
    clear HD1
    obtain ⟨k, g, n, cap, m, xs, hk4, rfl, hm, hlen, hk1, HS, HR, HD⟩ := hrel
    by_cases hk0 : 0 < k
    · go_wp2_with fail
      refine (pick_any p _ ns m 5 _ HD.out.src (by omega) (by omega)).mono ?_
      rintro e w1 ⟨⟨x, hx, rfl⟩, hd⟩
      have HD2 := Lib.hid (HD.out.draw hd)
      clear hd HD
      have hl2 := HD2.out.lt
      have hB2 := (Array.getElem?_eq_some_iff.1 HD2.out.b).1
      have HD3 := Lib.hid (HD2.out.below (Joins.below_alloc1 w1 (.cells #[.int .i64 ((x : Int) - 2), .int .i64 0] 29)))
      have ho3 := heap_alloc_last w1 (.cells #[.int .i64 ((x : Int) - 2), .int .i64 0] 29)
      obtain ⟨W3, hW3⟩ : ∃ W, w1.alloc (.cells #[.int .i64 ((x : Int) - 2), .int .i64 0] 29) = W := ⟨_, rfl⟩
      obtain ⟨bo, hbo⟩ : ∃ g, w1.heap.size = g := ⟨_, rfl⟩
      rw [hW3] at HD3 ho3
      rw [hbo] at ho3 hl2 hB2
      have HW3 := Lib.hid hW3
      have HBo := Lib.hid hbo
      clear hW3 hbo HD2
      go_upto_region 7 with fail
      rw [HW3.out, HBo.out]
      go_wp2_with fail
      refine (pick_any p _ ns (m + 1) 5 _ HD3.out.src (by omega) (by omega)).mono ?_
      rintro e w4 ⟨⟨y, hy, rfl⟩, hd⟩
      have HD4 := Lib.hid (HD3.out.draw hd)
      have ho4 := hd.2.cells ho3 (Or.inr (by omega))
      have HD5 := Lib.hid (HD4.out.poke bo 1 (.int .i64 ((y : Int) - 2)) (by omega) (by omega) (by omega))
      have ho5 := Joins.block_setCell (i := 1) ho4 (.int .i64 ((y : Int) - 2))
      have c4 : w4.cell? ⟨bo, 1, none⟩ = some (.int .i64 0) := by rw [Joins.cell_of_block ho4 1]; rfl
      have f4 : w4.frozen? ⟨bo, 1, none⟩ = false := Joins.unfrozen_of_block ho4 1
      obtain ⟨W5, hW5⟩ : ∃ W, w4.setCell ⟨bo, 1, none⟩ (.int .i64 ((y : Int) - 2)) = W := ⟨_, rfl⟩
      rw [hW5] at HD5 ho5
      have HW5 := Lib.hid hW5
      clear hd ho3 ho4 HD3 HD4 hW5
      go_upto_region 8 with fail
      rw [HW5.out]
      have cB := cell_of_one HD5.out.b
      have d0 : W5.cell? ⟨bo, 0, none⟩ = some (.int .i64 ((x : Int) - 2)) := by rw [Joins.cell_of_block ho5 0]; rfl
      have d1 : W5.cell? ⟨bo, 1, none⟩ = some (.int .i64 ((y : Int) - 2)) := by rw [Joins.cell_of_block ho5 1]; rfl
      have hn : n = xs.length := own_len HD5.out.own
      subst hn
      have CP := Lib.hid (l03Put_any (p + 1) g cap xs ((x : Int) - 2) ((y : Int) - 2) W5 HS.out (by omega) HD5.out.own)
      unfold SaysPut at CP
      clear c4 f4 ho5
      go_wp2_with fail
      refine CP.out.mono ?_
      rintro e w6 ⟨g', n', cap', ys, rfl, hsr, hmem, hyl, hown, hgr⟩
      obtain ⟨hb6, hD6⟩ := HD5.out.put hown hgr
      have HD6 := Lib.hid hD6
      have HS6 := Lib.hid hsr
      have HR6 : Hid (∀ q ∈ ys, (-2 ≤ q.1 ∧ q.1 ≤ 2) ∧ (-2 ≤ q.2 ∧ q.2 ≤ 2)) := fun q hq => by
        rcases (hmem q).1 hq with rfl | h
        · exact ⟨⟨by show (-2 : Int) ≤ (x : Int) - 2; omega, by show (x : Int) - 2 ≤ 2; omega⟩, by show (-2 : Int) ≤ (y : Int) - 2; omega, by show (y : Int) - 2 ≤ 2; omega⟩
        · exact HR.out q h
      have hy1 : 1 ≤ ys.length := List.length_pos_of_mem ((hmem ((x : Int) - 2, (y : Int) - 2)).2 (Or.inl rfl))
      have c6 := cell_of_one hb6
      have f6 := free_of_one hb6
      clear hsr hmem hown hgr hb6 hD6 HD5 HS HR CP cB d0 d1
      go_wp2_with fail
      go_roundw
      case rel => exact ⟨k - 1, g', n', cap', m + 1 + 1, ys, by omega, by go_num, by omega, by omega, fun _ => hy1, HS6, HR6, HD6⟩
      case measure => simp [intOf]; omega
    · obtain rfl : k = 0 := by omega
      have hl1 := hk1 rfl
      have hn : n = xs.length := own_len HD.out.own
      subst hn
      have cB := cell_of_one HD.out.b
      have cR := cell_of_one HD.out.r
      have fR := free_of_one HD.out.r
      have hpR := HD.out.gtR
      have HO := Lib.hid (Joins.ownsRow_le (own_set (u := .slice (some ⟨g, 0, none⟩) xs.length cap) HD.out.own HD.out.r (by decide)) (show w.heap.size ≤ p + 1 by omega))
      have HPo : Hid ((wr.setCell ⟨w.heap.size, 0, none⟩ (.slice (some ⟨g, 0, none⟩) xs.length cap)).cell? ⟨w.heap.size, 0, none⟩ = some (.slice (some ⟨g, 0, none⟩) xs.length cap)) := cell_of_one (one_setCell HD.out.r)
      have HBl := Lib.hid (HD.out.bel.setCell (p := ⟨w.heap.size, 0, none⟩) (Nat.le_refl _) (.slice (some ⟨g, 0, none⟩) xs.length cap))
      have HE : Hid (elB xs = true) := by
        show _ = _
        unfold elB
        rw [decide_eq_true hl1, decide_eq_true (show xs.length ≤ 50 by omega), Bool.and_true, Bool.and_true, List.all_eq_true]
        intro i hi
        exact steps_of_srt HS.out (fun q hq => (okO_iff q).2 (by have := HR.out q hq; omega)) i (List.mem_range.1 hi)
      have hx4 : xs.length ≤ 4 := by omega
      clear HD hk1
      go_wp2_with fail
      exact bodyPost_ret (v := .agg #[.slice (some ⟨g, 0, none⟩) xs.length cap]) (by simp [results, Tryd.results21, go_sem, HPo.out]) rfl ⟨g, cap, xs, rfl, HO.out, HBl.out, HE.out, hx4, HR.out⟩
end Go.Proofs.YtabkkpifkkgpeaaDoor
