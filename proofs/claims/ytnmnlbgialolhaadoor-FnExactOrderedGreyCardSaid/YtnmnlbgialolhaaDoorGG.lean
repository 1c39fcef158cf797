/- A grey picture among the arguments, opened: its rows lie there, and their numbers. -/
import Derived.Test.YtnmnlbgialolhaaDoorFr
import Derived.Test.YtnmnlbgialolhaaDoorGB
import Derived.Deep.Slices
import Derived.Deep.MidRow
namespace Go.Proofs.YtnmnlbgialolhaaDoor
open Go.ChangeShapes Go.WideShapes Go.ChangeAt Go.RowKit Go.Deep Go.WideElems
set_option linter.unusedVariables false
set_option maxRecDepth 100000

theorem ints_someG {w : World} {b off n : Nat} (h : ∀ i, i < n → ∃ x : Int, w.cell? ⟨b, off + i, none⟩ = some (.int .i64 x)) :
    ∃ ns : List Int, ns.length = n ∧ ∀ i, i < n → w.cell? ⟨b, off + i, none⟩ = some (.int .i64 (ns.getD i 0)) := by
  induction n with
  | zero => exact ⟨[], rfl, fun i hi => by omega⟩
  | succ n ih =>
    obtain ⟨xs, hl, hx⟩ := ih (fun i hi => h i (by omega))
    obtain ⟨x, h1⟩ := h n (by omega)
    refine ⟨xs ++ [x], by simp [hl], fun i hi => ?_⟩
    by_cases e : i < n
    · have := hx i e
      rwa [show (xs ++ [x]).getD i 0 = xs.getD i 0 from by rw [List.getD_eq_getElem?_getD, List.getD_eq_getElem?_getD, List.getElem?_append_left (by omega)]]
    · obtain rfl : i = n := by omega
      rw [show (xs ++ [x]).getD i 0 = x from by rw [List.getD_eq_getElem?_getD, List.getElem?_append_right (by omega), hl, Nat.sub_self]; rfl]
      exact h1
theorem rows_someG {w : World} {b off n : Nat} (h : ∀ i, i < n → ∃ (u : Value) (ns : List Int), w.cell? ⟨b, off + i, none⟩ = some u ∧ SlN w u ns ∧ ns.length ≤ maxLen) :
    ∃ (us : Nat → Value) (gs : List (List Int)), gs.length = n ∧ ∀ i, i < n → w.cell? ⟨b, off + i, none⟩ = some (us i) ∧ SlN w (us i) (rowF gs i) ∧ (rowF gs i).length ≤ maxLen := by
  induction n with
  | zero => exact ⟨fun _ => .slice none 0 0, [], rfl, fun i hi => by omega⟩
  | succ n ih =>
    obtain ⟨us, gs, hl, hx⟩ := ih (fun i hi => h i (by omega))
    obtain ⟨u, ns, h1, h2, h3⟩ := h n (by omega)
    refine ⟨fun i => if i = n then u else us i, gs ++ [ns], by simp [hl], fun i hi => ?_⟩
    by_cases e : i < n
    · have e2 : rowF (gs ++ [ns]) i = rowF gs i := by
        unfold rowF
        rw [List.getD_eq_getElem?_getD, List.getD_eq_getElem?_getD, List.getElem?_append_left (by omega)]
      have e3 : (if i = n then u else us i) = us i := if_neg (by omega)
      show _ = some (if i = n then u else us i) ∧ SlN w (if i = n then u else us i) _ ∧ _
      rw [e3, e2]
      exact hx i e
    · obtain rfl : i = n := by omega
      have e2 : rowF (gs ++ [ns]) i = ns := by
        unfold rowF
        rw [List.getD_eq_getElem?_getD, List.getElem?_append_right (by omega), hl, Nat.sub_self]; rfl
      have e3 : (if i = i then u else us i) = u := if_pos rfl
      show _ = some (if i = i then u else us i) ∧ SlN w (if i = i then u else us i) _ ∧ _
      rw [e3, e2]
      exact ⟨h1, h2, h3⟩
theorem cellsGreyL : Tryd.prog.cellsOf 40 = 1 := by kernel_rfl

theorem open_rowN {H : Type} {enc : TypeId × Value → H} {W : World} {v0 : Value} {y : DataW H × List MemPlace} {fuel : Nat}
    (hf : DataW.trod enc Tryd.prog W 0 (fun _ => true) true fuel 88 [v0] = some y) : ∃ ns : List Int, SlN W v0 ns ∧ ns.length ≤ maxLen := by
  rcases open_slice1 Tryd.underlying88 (by kernel_rfl) hf with ⟨hcs, _⟩ | ⟨a, len, cap, m, n, V, D, Pl, hcs, _, hl, hm, hmm, _, hx⟩
  · simp at hcs
    subst hcs
    exact ⟨[], Or.inl ⟨none, 0, rfl, rfl⟩, by simp⟩
  · simp at hcs
    subst hcs
    have hm' : m = cap := by simpa using hmm
    by_cases h0 : len = 0
    · subst h0
      exact ⟨[], Or.inl ⟨_, _, rfl, rfl⟩, by simp⟩
    · obtain ⟨b, off, spot⟩ := a
      have hc := (hx 0 (by omega)).1
      have hspot : spot = none := by simpa [Addr.add] using World.cell?_spot hc
      subst hspot
      have hblk : b < W.heap.size := blk_lt (o := off) (v := V 0) (by simpa [Addr.add] using hc)
      obtain ⟨xs, hlen, hxs⟩ := ints_someG (w := W) (b := b) (off := off) (n := len) (fun i hi => by
        obtain ⟨g0, t0⟩ := hx i (by omega)
        obtain ⟨n0, e0, _, _⟩ := DataW.trod_int Tryd.underlying2 t0
        simp only [List.cons.injEq, and_true] at e0
        rw [Addr.add_mid] at g0
        exact ⟨n0, by rw [g0, e0]⟩)
      exact ⟨xs, Or.inr ⟨b, off, cap, by rw [hlen], by omega, hblk, fun i hi => hxs i (by omega)⟩, by omega⟩
theorem open_rowsN {H : Type} {enc : TypeId × Value → H} {W : World} {v0 : Value} {y : DataW H × List MemPlace} {fuel : Nat}
    (hf : DataW.trod enc Tryd.prog W 0 (fun _ => true) true fuel 33 [v0] = some y) : ∃ gs : List (List Int), SlG W v0 gs ∧ gs.length ≤ maxLen ∧ ∀ i, i < gs.length → (rowF gs i).length ≤ maxLen := by
  rcases open_slice1 Tryd.underlying33 (by kernel_rfl) hf with ⟨hcs, _⟩ | ⟨a, len, cap, m, n, V, D, Pl, hcs, _, hl, hm, hmm, _, hx⟩
  · simp at hcs
    subst hcs
    exact ⟨[], Or.inl ⟨none, 0, rfl, rfl⟩, by simp, fun i hi => absurd hi (Nat.not_lt_zero i)⟩
  · simp at hcs
    subst hcs
    have hm' : m = cap := by simpa using hmm
    by_cases h0 : len = 0
    · subst h0
      exact ⟨[], Or.inl ⟨_, _, rfl, rfl⟩, by simp, fun i hi => absurd hi (Nat.not_lt_zero i)⟩
    · obtain ⟨b, off, spot⟩ := a
      have hc := (hx 0 (by omega)).1
      have hspot : spot = none := by simpa [Addr.add] using World.cell?_spot hc
      subst hspot
      have hblk : b < W.heap.size := blk_lt (o := off) (v := V 0) (by simpa [Addr.add] using hc)
      obtain ⟨us, gs, hlen, hxs⟩ := rows_someG (w := W) (b := b) (off := off) (n := len) (fun i hi => by
        obtain ⟨g0, t0⟩ := hx i (by omega)
        obtain ⟨ns, h1, h2⟩ := open_rowN t0
        rw [Addr.add_mid] at g0
        exact ⟨V i, ns, g0, h1, h2⟩)
      refine ⟨gs, Or.inr ⟨b, off, cap, us, by rw [hlen], by omega, hblk, fun i hi => ?_⟩, by omega, fun i hi => (hxs i (by omega)).2.2⟩
      have := hxs i (by omega)
      exact ⟨this.1, this.2.1⟩
/-- WHAT A GREY PICTURE AMONG THE ARGUMENTS IS -/
theorem open_grey {H : Type} {enc : TypeId × Value → H} {W : World} {v : Value} {d : DataW H} {p : List MemPlace} {b0 : Nat} {r : Reach} (hv : Value.okWide Tryd.prog W r b0 40 v)
    (h : DataW.Trod enc Tryd.prog W 0 (fun _ => true) true 40 v d p) : ∃ (u : Value) (gs : List (List Int)), v = .agg #[u] ∧ SlG W u gs ∧ gs.length ≤ maxLen ∧ ∀ i, i < gs.length → (rowF gs i).length ≤ maxLen := by
  obtain ⟨u, y, n, rfl, _, _, hy⟩ := open_agg1 Tryd.underlying40 (by kernel_rfl) cellsGreyL hv h
  obtain ⟨gs, h1, h2, h3⟩ := open_rowsN hy
  exact ⟨u, gs, rfl, h1, h2, h3⟩
end Go.Proofs.YtnmnlbgialolhaaDoor
