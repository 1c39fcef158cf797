/- Contracts of single functions, and plain lemmas, on which the exact laws of this seat rest; each holds under the conditions that it states. -/
import Derived.Test.YtelakopkpmkdcaaA4
namespace Go.Proofs.Ytelakopkpmkdcaa
set_option linter.unusedVariables false
set_option linter.unusedSimpArgs false
open Go.RowKit

/-- the first k places of a square from o on that a rule allows -/
def grL (n : Nat) (o : Int) (f : Int → Int → Bool) (k : Nat) : List (Int × Int) := (List.range k).filterMap fun i => if f (((i % n : Nat) : Int) + o) (((i / n : Nat) : Int) + o) then some (((i % n : Nat) : Int) + o, ((i / n : Nat) : Int) + o) else none
theorem grL_len (n : Nat) (o : Int) (f : Int → Int → Bool) (k : Nat) : (grL n o f k).length ≤ k := by
  unfold grL
  have := List.length_filterMap_le (fun i => if f (((i % n : Nat) : Int) + o) (((i / n : Nat) : Int) + o) then some (((i % n : Nat) : Int) + o, ((i / n : Nat) : Int) + o) else none) (List.range k)
  simpa using this
theorem grL_snoc (n : Nat) (o : Int) (f : Int → Int → Bool) (y x : Nat) (hx : x < n) : grL n o f (y * n + x + 1) = grL n o f (y * n + x) ++ (if f ((x : Int) + o) ((y : Int) + o) then [((x : Int) + o, (y : Int) + o)] else []) := by
  have h1 : (y * n + x) / n = y := by rw [Nat.mul_comm, Nat.mul_add_div (by omega), Nat.div_eq_of_lt hx, Nat.add_zero]
  have h2 : (y * n + x) % n = x := by rw [Nat.mul_comm, Nat.mul_add_mod, Nat.mod_eq_of_lt hx]
  unfold grL
  rw [List.range_succ, List.filterMap_append]
  congr 1
  simp only [List.filterMap_cons, List.filterMap_nil, h1, h2]
  split <;> simp_all
theorem grL_zero (n : Nat) (o : Int) (f : Int → Int → Bool) : grL n o f 0 = [] := rfl

/-- an element that is being made in a variable; the result's variable -/
structure ElSt (w W : World) (R B : Nat) (v : Value) (L : List (Int × Int)) : Prop where
  r : W.heap[R]? = some (.cells #[.slice none 0 0] 24 (0, 0))
  b : W.heap[B]? = some (.cells #[v] 24 (0, 0))
  own : OwnS W w.heap.size v L
  bel : Below w.heap.size w W
  geB : w.heap.size ≤ B
  geR : w.heap.size ≤ R
  ne : R ≠ B
section
variable {w W W' : World} {R B : Nat} {v : Value} {L : List (Int × Int)}
theorem ElSt.below (h : ElSt w W R B v L) (hb : Below W.heap.size W W') : ElSt w W' R B v L :=
  ⟨(hb.block R (Array.getElem?_eq_some_iff.1 h.r).1).trans h.r, (hb.block B (Array.getElem?_eq_some_iff.1 h.b).1).trans h.b, own_below h.own hb, h.bel.trans (hb.mono h.bel.size), h.geB, h.geR, h.ne⟩
theorem ElSt.appended {w1 : World} {v' : Value} (h : ElSt w W R B v L) (a b : Int)
    (hown' : w1.ownsRow w.heap.size 46 2 v' (L.length + 1) (flat2 L ++ [.int .i64 a, .int .i64 b]))
    (hgr : (W.alloc (.cells #[.int .i64 a, .int .i64 b] 46)).grownBy w1 v.ownBlock) :
    w1.heap[B]? = some (.cells #[v] 24 (0, 0)) ∧ ElSt w (w1.setCell ⟨B, 0, none⟩ v') R B v' (L ++ [(a, b)]) := by
  have hB : Boxed W B 24 v := h.b
  have hR : Boxed W R 24 (.slice none 0 0) := h.r
  obtain ⟨h1, h2, h3, _, h5⟩ := hB.appended (by decide) h.own h.bel.size h.geB hown' hgr
  refine ⟨h1, ((hR.alloc _).kept hgr (hR.not_row (by decide) h.own)).other h.ne _, h2, ?_, h.bel.trans h5, h.geB, h.geR, h.ne⟩
  unfold OwnS
  rw [flat2_snoc, List.length_append]
  exact h3
theorem ElSt.start (w : World) : ElSt w (((w.alloc (.cells #[.slice none 0 0] 24)).alloc (.cells #[] 46)).alloc (.cells #[.slice (some ⟨w.heap.size + 1, 0, none⟩) 0 0] 24)) w.heap.size (w.heap.size + 1 + 1) (.slice (some ⟨w.heap.size + 1, 0, none⟩) 0 0) [] := by
  refine ⟨?_, ?_, ?_, Joins.below_alloc3 _ _ _ _, by omega, Nat.le_refl _, by omega⟩
  · rw [Below.heap_alloc _ _ _ (by simp; omega), Below.heap_alloc _ _ _ (by simp)]
    exact heap_alloc_last w _
  · have := heap_alloc_last ((w.alloc (.cells #[.slice none 0 0] 24)).alloc (.cells #[] 46)) (.cells #[.slice (some ⟨w.heap.size + 1, 0, none⟩) 0 0] 24)
    simp only [World.size_alloc] at this
    exact this
  · have := World.ownsRow_lit (base := w.heap.size) (e := 46) (size := 2) (w.alloc (.cells #[.slice none 0 0] 24)) #[] 0 (by simp) (by unfold maxLen; omega) rfl
    rw [World.size_alloc] at this
    exact World.ownsRow.alloc this _
theorem ElSt.own_out (h : ElSt w W R B v L) (u : Value) : OwnS (W.setCell ⟨R, 0, none⟩ u) w.heap.size v L := own_set (u := u) h.own h.r (by decide)
theorem ElSt.cell (h : ElSt w W R B v L) : W.cell? ⟨B, 0, none⟩ = some v := cell_of_one h.b
theorem ElSt.fr (h : ElSt w W R B v L) : W.frozen? ⟨B, 0, none⟩ = false := free_of_one h.b
theorem ElSt.cellR (h : ElSt w W R B v L) : W.cell? ⟨R, 0, none⟩ = some (.slice none 0 0) := cell_of_one h.r
theorem ElSt.frR (h : ElSt w W R B v L) : W.frozen? ⟨R, 0, none⟩ = false := free_of_one h.r
theorem ElSt.ltB (h : ElSt w W R B v L) : B < W.heap.size := (Array.getElem?_eq_some_iff.1 h.b).1
end

set_option maxHeartbeats 2000000 in
set_option maxRecDepth 100000 in
theorem l03Square_any (n : Nat) (w : World) (hn : n ≤ 5) : Calls Try.prog 27 #[.int .i64 n] w (SaysEl (grL n 0 (fun _ _ => true) (n * n)) w) := by
  obtain ⟨i0, hi, hz0, hz1, hz2⟩ := info_parts infoSp
  go_enter Try.func27, Try.ntmps27
  go_wp2
  go_loopw [4] (fun yv wr => ∃ (y : Nat) (ao : Option Addr) (m cap : Nat), y ≤ n ∧ yv = .int .i64 y ∧ Hid (ElSt w wr w.heap.size (w.heap.size + 1 + 1) (.slice ao m cap) (grL n 0 (fun _ _ => true) (y * n)))) (fun yv _ => n - (intOf yv).toNat)
  case atStart =>
    refine ⟨0, some ⟨w.heap.size + 1, 0, none⟩, 0, 0, Nat.zero_le _, rfl, ?_⟩
    rw [Nat.zero_mul, grL_zero]
    exact ElSt.start w
  case round =>
    obtain ⟨y, ao, m, cap, hy, rfl, HS⟩ := hrel
    by_cases hlt : y < n
    · have kyn : (y : Int) < (n : Int) := by omega
      go_wp2
      go_loopw [5] (fun xv wr => ∃ (x : Nat) (ao : Option Addr) (m cap : Nat), x ≤ n ∧ xv = .int .i64 x ∧ Hid (ElSt w wr w.heap.size (w.heap.size + 1 + 1) (.slice ao m cap) (grL n 0 (fun _ _ => true) (y * n + x)))) (fun xv _ => n - (intOf xv).toNat)
      case atStart => exact ⟨0, ao, m, cap, Nat.zero_le _, rfl, HS.out⟩
      case round =>
        clear HS ao m cap
        obtain ⟨x, ao, m, cap, hx, rfl, HS⟩ := hrel
        by_cases hltx : x < n
        · have kxn : (x : Int) < (n : Int) := by omega
          have hsn := grL_snoc n 0 (fun _ _ => true) y x hltx
          have hle := grL_len n 0 (fun _ _ => true) (y * n + x)
          have hNle : y * n ≤ 25 := Nat.le_trans (Nat.mul_le_mul hy (Nat.le_refl _)) (Nat.mul_le_mul hn hn)
          simp only [if_true, Int.add_zero] at hsn
          rw [show y * n + x + 1 = y * n + (x + 1) from by omega] at hsn
          obtain ⟨L, hL⟩ : ∃ L, grL n 0 (fun _ _ => true) (y * n + x) = L := ⟨_, rfl⟩
          rw [hL] at HS hsn hle
          have HSn := Lib.hid hsn
          have hlen : L.length ≤ 30 := by omega
          have c0 := HS.out.cell
          have f0 := HS.out.fr
          have l0 := HS.out.ltB
          have hs := HS.out.bel.size
          clear hL hsn hle hNle
          go_wp2_with (at_builtin; refine wpList_append_own _ rfl _ _ 22 rfl w.heap.size 46 i0 (.agg #[.int .i64 0, .int .i64 0]) 2 16 Try.underlying22 hi hz0 hz1 hz2 rfl (by decide) _ _ _ rfl (World.ownsRow.alloc HS.out.own _) ⟨wr.heap.size, 0, none⟩ 1 1 [.int .i64 x, .int .i64 y] rfl rfl (two_cells_new _ _ _ _) (by intro u hu; simp at hu; rcases hu with rfl | rfl <;> rfl) (by unfold maxLen; omega) (by omega) (by simp; omega) ?_)
          intro v' w1 hown' hgr _
          obtain ⟨g', c', rfl⟩ := Joins.ownsRow_form hown' (by omega)
          obtain ⟨hb1, hS1⟩ := HS.out.appended x y hown' hgr
          have hc1 := cell_of_one hb1
          have hf1 := free_of_one hb1
          have HS1 := Lib.hid hS1
          clear hown' hgr hb1 hS1 c0 f0
          go_wp2
          go_roundw
          case rel => exact ⟨x + 1, _, _, _, by omega, by go_num, by rw [HSn.out]; exact HS1.out⟩
          case measure => simp [intOf]; omega
        · obtain rfl : x = n := by omega
          have e1 : y * x + x = (y + 1) * x := by rw [Nat.add_mul, Nat.one_mul]
          rw [e1] at HS
          clear e1
          go_wp2
          go_roundw
          case rel => exact ⟨y + 1, ao, m, cap, by omega, by go_num, HS.out⟩
          case measure => simp [intOf]; omega
    · obtain rfl : y = n := by omega
      have c0 := HS.out.cell
      have c1 := HS.out.cellR
      have f1 := HS.out.frR
      have l0 := HS.out.ltB
      have hs := HS.out.bel.size
      have HO := Lib.hid (HS.out.own_out (.slice ao m cap))
      have HR := Lib.hid (one_setCell (u := .slice ao m cap) HS.out.r)
      have HB := Lib.hid (HS.out.bel.setCell (p := ⟨w.heap.size, 0, none⟩) (Nat.le_refl _) (.slice ao m cap))
      clear HS
      go_wp2
      exact bodyPost_ret (results_cell1 (p := 2) (ty := 24) Try.results27 _ _ w.heap.size 24 #[.slice ao m cap] (0, 0) _ rfl HR.out Try.underlying24 rfl infoEl) rfl ⟨ao, m, cap, rfl, HO.out, HB.out⟩
end Go.Proofs.Ytelakopkpmkdcaa
