/- Contracts of single functions, and plain lemmas, on which the exact laws of this seat rest; each holds under the conditions that it states. -/
import Derived.Test.YtnmnlbgialolhaaDoorGM
namespace Go.Proofs.YtnmnlbgialolhaaDoor
set_option linter.unusedVariables false
set_option linter.unusedSimpArgs false
open Go.RowKit
attribute [local go_sem] Oper.semAt_some

/-- a pixel set: one block is another, all others stay -/
def SetX (w w' : World) (mb a b : Nat) (g : Nat → Nat) (q p : Nat) (bk : Bool) : Prop :=
  w'.heap[mb]? = some (.cells (mat a b (updG g q p bk)) 63 (0, 0)) ∧ Below mb w w' ∧ (∀ k, k ≠ mb → w'.heap[k]? = w.heap[k]?) ∧ w'.heap.size = w.heap.size

set_option maxHeartbeats 2000000 in
set_option maxRecDepth 100000 in
theorem set_any2 (mb a b : Nat) (g : Nat → Nat) (p q : Nat) (bk : Bool) (w : World) (hm : w.heap[mb]? = some (.cells (mat a b g) 63 (0, 0))) (hp : p < 16) (hq : q < 16) (hg : g q < 4294967296) :
    Calls Tryd.prog 75 #[.pointer (some ⟨mb, 0, none⟩), .int .i64 p, .int .i64 q, .bool bk] w (fun e w' => e = .returned (.tuple #[]) ∧ SetX w w' mb a b g q p bk) := by
  have cq : w.cell? ⟨mb, 2 + q, none⟩ = some (.int .u32 (g q)) := by
    rw [Joins.cell_of_block hm (2 + q)]; exact mcells_word _ _ _ q hq
  have fz : w.frozen? ⟨mb, 2 + q, none⟩ = false := by simp [World.frozen?, hm]
  have k1 := clr_bits (g q) p hg hp
  have k2 := or_bits (clrW (g q) p) p (clr_lt _ p hg) hp
  have h1 : Hid ((w.setCell ⟨mb, 2 + q, none⟩ (.int .u32 (clrW (g q) p))).heap[mb]? = some (.cells (mat a b (fun j => if j = q then clrW (g q) p else g j)) 63 (0, 0))) := by
    have := Lib.heap_setCell_same (i := 2 + q) hm (.int .u32 (clrW (g q) p))
    rw [mat_set a b g q hq] at this
    exact this
  have h2 : Hid (((w.setCell ⟨mb, 2 + q, none⟩ (.int .u32 (clrW (g q) p))).setCell ⟨mb, 2 + q, none⟩ (.int .u32 (clrW (g q) p ||| 2 ^ p : Nat))).heap[mb]? = some (.cells (mat a b (fun j => if j = q then clrW (g q) p ||| 2 ^ p else g j)) 63 (0, 0))) := by
    have := Lib.heap_setCell_same (i := 2 + q) h1.out (.int .u32 (clrW (g q) p ||| 2 ^ p : Nat))
    rw [mat_set a b _ q hq] at this
    have e : (fun j => if j = q then clrW (g q) p ||| 2 ^ p else if j = q then clrW (g q) p else g j) = (fun j => if j = q then clrW (g q) p ||| 2 ^ p else g j) := by
      funext j; split <;> rfl
    rw [e] at this
    exact this
  have kq : (q : Int) < 16 := by omega
  have HU : Hid (updG g q p = fun bk j => if j = q then updW (g q) p bk else g j) := rfl
  obtain ⟨W, hW⟩ : ∃ W, g q = W := ⟨_, rfl⟩
  rw [hW] at cq k1 k2 h1 h2 HU
  clear hg hW hm
  cases bk with
  | false =>
    have HE : (Ending.returned (.tuple #[])) = Ending.returned (.tuple #[]) ∧ SetX w (w.setCell ⟨mb, 2 + q, none⟩ (.int .u32 (clrW W p))).drew mb a b g q p false := ⟨rfl, by rw [HU.out]; exact h1.out, (Below.setCell (p := ⟨mb, 2 + q, none⟩) (Below.refl mb w) (Nat.le_refl _) _).drew, fun k hk => Below.heap_setCell w ⟨mb, 2 + q, none⟩ _ k hk, by simp⟩
    have HE' := Lib.hid HE
    clear HE
    go_enter Tryd.func75, Tryd.ntmps75
    go_wp2
    go_region
    go_wp2
    go_end0
    exact ⟨rfl, HE'.out.2⟩
  | true =>
    have b1 : Below mb w (w.setCell ⟨mb, 2 + q, none⟩ (.int .u32 (clrW W p))).drew := (Below.setCell (p := ⟨mb, 2 + q, none⟩) (Below.refl mb w) (Nat.le_refl _) _).drew
    have b2 : Below mb w (((w.setCell ⟨mb, 2 + q, none⟩ (.int .u32 (clrW W p))).drew.setCell ⟨mb, 2 + q, none⟩ (.int .u32 (clrW W p ||| 2 ^ p : Nat)))).drew := (Below.setCell (p := ⟨mb, 2 + q, none⟩) b1 (Nat.le_refl _) _).drew
    have HE : (Ending.returned (.tuple #[])) = Ending.returned (.tuple #[]) ∧ SetX w (((w.setCell ⟨mb, 2 + q, none⟩ (.int .u32 (clrW W p))).drew.setCell ⟨mb, 2 + q, none⟩ (.int .u32 (clrW W p ||| 2 ^ p : Nat)))).drew mb a b g q p true := ⟨rfl, by rw [HU.out]; exact h2.out, b2, fun k hk => (Below.heap_setCell (w.setCell ⟨mb, 2 + q, none⟩ (.int .u32 (clrW W p))).drew ⟨mb, 2 + q, none⟩ _ k hk).trans (Below.heap_setCell w ⟨mb, 2 + q, none⟩ _ k hk), by simp⟩
    have HE' := Lib.hid HE
    have cq2 : (w.setCell ⟨mb, 2 + q, none⟩ (.int .u32 (clrW W p))).drew.cell? ⟨mb, 2 + q, none⟩ = some (.int .u32 (clrW W p)) := by
      show (w.setCell ⟨mb, 2 + q, none⟩ (.int .u32 (clrW W p))).cell? ⟨mb, 2 + q, none⟩ = _
      rw [Joins.cell_of_block h1.out (2 + q)]
      have := mcells_word a b (fun j => ((if j = q then clrW W p else g j : Nat) : Int)) q hq
      unfold mat
      rw [this, if_pos rfl]
    have fz2 : (w.setCell ⟨mb, 2 + q, none⟩ (.int .u32 (clrW W p))).drew.frozen? ⟨mb, 2 + q, none⟩ = false := by
      show (w.setCell ⟨mb, 2 + q, none⟩ (.int .u32 (clrW W p))).frozen? ⟨mb, 2 + q, none⟩ = false
      have := h1.out
      simp [World.frozen?, this]
    clear HE b1 b2
    go_enter Tryd.func75, Tryd.ntmps75
    go_wp2
    go_region
    obtain ⟨w1, hw1⟩ : ∃ w1, (w.setCell ⟨mb, 2 + q, none⟩ (.int .u32 (clrW W p))).drew = w1 := ⟨_, rfl⟩
    rw [hw1] at cq2 fz2 HE' ⊢
    clear hw1 cq fz h1 h2
    go_wp2
    go_region
    go_wp2
    go_end0
    exact ⟨rfl, HE'.out.2⟩

set_option maxHeartbeats 1000000 in
theorem atG_at (b off n cap a b2 o2 cy x y : Nat) (w : World) (hx : x < a) (hy : y < n) (h1 : w.cell? ⟨b, off + y, none⟩ = some (.slice (some ⟨b2, o2, none⟩) a cy)) :
    Calls Tryd.prog 97 #[.slice (some ⟨b, off, none⟩) n cap, .agg #[.int .i64 x, .int .i64 y]] w (fun e w' => e = .returned (.pointer (some ⟨b2, o2 + x, none⟩)) ∧ Below w.heap.size w w') := by
  have kx : (x : Int) < (a : Int) := by omega
  have ky : (y : Int) < (n : Int) := by omega
  have h1a : (w.alloc (.cells #[.int .i64 x, .int .i64 y] 93)).cell? ⟨b, off + y, none⟩ = some (.slice (some ⟨b2, o2, none⟩) a cy) := cell_kept (Joins.below_alloc1 _ _) h1
  clear h1
  go_enter Tryd.func97, Tryd.ntmps97
  go_wp2_with fail
  go_quiet (fail)
  go_wp2
  go_ret
  exact ⟨rfl, (Joins.below_alloc1 w _).trans (Joins.below_draws w.heap.size _ _)⟩
end Go.Proofs.YtnmnlbgialolhaaDoor
