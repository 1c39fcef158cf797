/- Contracts of single functions, and plain lemmas, on which the exact laws of this seat rest; each holds under the conditions that it states. -/
import Derived.Test.YthkmfiipmhlbjaaDoorMw
import Derived.Test.YthkmfiipmhlbjaaDoorBl
import Derived.Test.YthkmfiipmhlbjaaDoorShelf
import Derived.Lib.BufferKept
import Derived.Lib.BufferOld
namespace Go.Proofs.YthkmfiipmhlbjaaDoor
set_option linter.unusedVariables false
open Go.RowKit

/-! ### a row of a matrix as text: the shelf's buffer -/
theorem byteCells_snoc (l : List UInt8) (c : UInt8) : Lib.byteCells (l ++ [c]) = Lib.byteCells l ++ [.int .u8 c.toNat] := by simp [Lib.byteCells]

theorem text_step {w wr w2 : World} {n k : Nat} {C : Array Value} {t : TypeId} (hC : wr.heap[n]? = some (.cells C t (0, 0))) (hn : n < k) (h : Below n w wr) (h2 : Below k wr w2) : w2.heap[n]? = some (.cells C t (0, 0)) ∧ Below n w w2 :=
  ⟨(h2.block n hn).trans hC, h.trans (h2.mono (by omega))⟩

set_option maxHeartbeats 4000000 in
set_option maxRecDepth 100000 in
theorem rowText_any (C : Array Value) (a b : Nat) (g : Nat → Nat) (y : Int) (w : World) (hC : C = mat a b g) (ha : a ≤ 16) (hb : b ≤ 16) (hg : ∀ j, g j < 4294967296) :
    Calls Tryd.prog 159 #[.agg C, .int .i64 y] w (fun e w' => e = .returned (.string (rowOf (fun x => blackB a b g x y) a)) ∧ Below w.heap.size w w') := by
  obtain ⟨f, hf⟩ : ∃ f : Nat → Bool, (fun x : Nat => blackB a b g (x : Int) y) = f := ⟨_, rfl⟩
  have HB := Lib.hid (fun (x : Nat) (W : World) => black_any C a b g x y W hC ha hb hg)
  have hf' : ∀ x : Nat, blackB a b g (x : Int) y = f x := fun x => by rw [← hf]
  have HF := Lib.hid hf'
  rw [hf]
  have hsz : C.size = 18 := by rw [hC]; rfl
  have HI : (Tryd.prog.info? 95).map (·.size) = some C.size := by rw [hsz]; exact infoM
  have HI' := Lib.hid HI
  have hl0 : (w.alloc (.cells C 95)).heap[w.heap.size]? = some (.cells C 95 (0, 0)) := heap_alloc_last w _
  have hl1 : ((w.alloc (.cells C 95)).alloc (.cells #[.slice none 0 0, .int .i64 0, .int .i8 0] 141)).heap[w.heap.size]? = some (.cells C 95 (0, 0)) := by
    rw [Below.heap_alloc _ _ _ (by simp)]; exact hl0
  have c0 : ((w.alloc (.cells C 95)).alloc (.cells #[.slice none 0 0, .int .i64 0, .int .i8 0] 141)).cell? ⟨w.heap.size, 0, none⟩ = some (.int .i64 a) := by
    rw [Joins.cell_of_block hl1 0, hC]; rfl
  have hI0 : Lib.IsBuffer 141 5 (w.heap.size + 1) (w.heap.size + 1) (Lib.byteCells (mkRow f 0)) ((w.alloc (.cells C 95)).alloc (.cells #[.slice none 0 0, .int .i64 0, .int .i8 0] 141)) := by
    have := Lib.fresh_isBuffer 141 5 (w.alloc (.cells C 95))
    simp only [World.size_alloc] at this
    exact this
  have L1 := Lib.hid hl1
  have I0 := Lib.hid hI0
  clear HI hsz hC hg hf hf' hl0 hl1 hI0
  go_enter Tryd.func159, Tryd.ntmps159
  go_wp2
  go_loopw [9] (fun xv wr => ∃ x : Nat, x ≤ a ∧ xv = .int .i64 x ∧ Lib.IsBuffer 141 5 (w.heap.size + 1) (w.heap.size + 1) (Lib.byteCells (mkRow f x)) wr ∧ wr.heap[w.heap.size]? = some (.cells C 95 (0, 0)) ∧ Below w.heap.size w wr) (fun xv _ => a - (intOf xv).toNat)
  case atStart => exact ⟨0, Nat.zero_le _, rfl, I0.out, L1.out, Joins.below_alloc2 _ _ _⟩
  case round =>
    obtain ⟨x, hx, rfl, hI, hl, hbel⟩ := hrel
    have hsz := hbel.size
    have hlt := hI.lt
    have hone : Hid (∀ v ∈ Lib.byteCells (mkRow f x), v.oneCell' = true) := Lib.byteCells_one _
    have hln : Hid ((Lib.byteCells (mkRow f x)).length = x) := by show _ = _; rw [Lib.byteCells_length, mkRow_len]
    have HI0 := Lib.hid hI
    have HL := Lib.hid hl
    have HBe := Lib.hid hbel
    clear hI hl hbel
    by_cases hlt2 : x < a
    · have kx0 : (x : Int) < (a : Int) := by omega
      go_wp2_with (first | (refine wpList_load_row rfl 95 _ rfl w.heap.size rfl 95 C (0, 0) _ HL.out Tryd.underlying95 rfl HI'.out ?_) | (refine (HB.out x _).mono ?_; rintro e w1 ⟨rfl, hb1⟩; rw [HF.out x]; refine Hid.out ?_))
      refine Lib.hid ?_
      have I1 := Lib.hid (HI0.out.old hb1)
      have L2 := Lib.hid ((hb1.block w.heap.size (by omega)).trans HL.out)
      have B1 := Lib.hid (HBe.out.trans (hb1.mono hsz))
      have hsz1 := B1.out.size
      have hlt1 : w.heap.size + 1 < w1.heap.size := I1.out.lt
      have hsn := mkRow_snoc f x
      clear hb1
      cases hbit : f x with
      | true =>
        rw [hbit] at hsn
        have HSN : Hid (mkRow f (x + 1) = mkRow f x ++ [35]) := hsn
        clear hbit hsn
        go_wp2_with (refine (Tryd.Buffer_WriteByte_k _ _ _ _ w1 I1.out (by omega) hone.out (by rw [hln.out]; omega)).mono ?_; rintro e W2 ⟨rfl, hI2, hb2, hkept⟩; refine Hid.out ?_)
        refine Lib.hid ?_
        have S := Lib.hid (text_step L2.out (by omega) B1.out hb2)
        have I2 : Hid (Lib.IsBuffer 141 5 (w.heap.size + 1) (w.heap.size + 1) (Lib.byteCells (mkRow f (x + 1))) W2) := by
          show Lib.IsBuffer _ _ _ _ _ _
          rw [HSN.out, byteCells_snoc]; exact hI2
        clear hI2 hb2 hkept
        go_wp2
        go_roundw
        case rel => exact ⟨x + 1, by omega, by go_num, I2.out, S.out.1, S.out.2⟩
        case measure => simp [intOf]; omega
      | false =>
        rw [hbit] at hsn
        have HSN : Hid (mkRow f (x + 1) = mkRow f x ++ [46]) := hsn
        clear hbit hsn
        go_wp2_with (refine (Tryd.Buffer_WriteByte_k _ _ _ _ w1 I1.out (by omega) hone.out (by rw [hln.out]; omega)).mono ?_; rintro e W2 ⟨rfl, hI2, hb2, hkept⟩; refine Hid.out ?_)
        refine Lib.hid ?_
        have S := Lib.hid (text_step L2.out (by omega) B1.out hb2)
        have I2 : Hid (Lib.IsBuffer 141 5 (w.heap.size + 1) (w.heap.size + 1) (Lib.byteCells (mkRow f (x + 1))) W2) := by
          show Lib.IsBuffer _ _ _ _ _ _
          rw [HSN.out, byteCells_snoc]; exact hI2
        clear hI2 hb2 hkept
        go_wp2
        go_roundw
        case rel => exact ⟨x + 1, by omega, by go_num, I2.out, S.out.1, S.out.2⟩
        case measure => simp [intOf]; omega
    · obtain rfl : x = a := by omega
      go_wp2_with (refine (Tryd.Buffer_String _ _ (mkRow f x) wr HI0.out).mono ?_; rintro e W2 ⟨rfl, n, rfl⟩)
      go_wp2
      go_ret
      exact ⟨rfl, HBe.out.trans ⟨rfl, rfl, rfl, Nat.le_refl _, fun _ _ => rfl⟩⟩
end Go.Proofs.YthkmfiipmhlbjaaDoor
