/- Contracts of single functions, and plain lemmas, on which the exact laws of this seat rest; each holds under the conditions that it states. -/
import Derived.Test.YtlmmeefcnjcceaaDoorOd
import Derived.Test.YtlmmeefcnjcceaaDoorMw
import Derived.Test.YtlmmeefcnjcceaaDoorShelf
namespace Go.Proofs.YtlmmeefcnjcceaaDoor
set_option linter.unusedVariables false
set_option linter.unusedSimpArgs false
open Go.RowKit Go.Maps

/-! ### the steps of a route -/
/-- the cells of the first k steps -/
def rtC (X Y : Int) (s : ByteArray) (j : Nat) : Int := if j % 3 = 0 then px X s (j / 3) else if j % 3 = 1 then py Y s (j / 3) else wy s (j / 3)
def rt (X Y : Int) (s : ByteArray) (k : Nat) : List Value := (List.range (k * 3)).map fun j => Value.int .i64 (rtC X Y s j)
theorem rt_len (X Y : Int) (s : ByteArray) (k : Nat) : (rt X Y s k).length = k * 3 := by simp [rt]
theorem rt_at (X Y : Int) (s : ByteArray) (k j : Nat) (h : j < k * 3) : (rt X Y s k)[j]? = some (.int .i64 (rtC X Y s j)) := by simp [rt, h]
theorem rt_x (X Y : Int) (s : ByteArray) (i : Nat) : rtC X Y s (i * 3) = px X s i := by
  unfold rtC; rw [if_pos (by omega), show i * 3 / 3 = i from by omega]
theorem rt_y (X Y : Int) (s : ByteArray) (i : Nat) : rtC X Y s (i * 3 + 1) = py Y s i := by
  unfold rtC; rw [if_neg (by omega), if_pos (by omega), show (i * 3 + 1) / 3 = i from by omega]
theorem rt_d (X Y : Int) (s : ByteArray) (i : Nat) : rtC X Y s (i * 3 + 2) = wy s i := by
  unfold rtC; rw [if_neg (by omega), if_neg (by omega), show (i * 3 + 2) / 3 = i from by omega]
theorem rt_snoc (X Y : Int) (s : ByteArray) (k : Nat) : rt X Y s (k + 1) = rt X Y s k ++ [.int .i64 (px X s k), .int .i64 (py Y s k), .int .i64 (wy s k)] := by
  unfold rt
  rw [show (k + 1) * 3 = k * 3 + 1 + 1 + 1 from by omega, List.range_succ, List.range_succ, List.range_succ]
  simp only [List.map_append, List.map_cons, List.map_nil, List.append_assoc, List.cons_append, List.nil_append]
  rw [rt_x, rt_y, show k * 3 + 1 + 1 = k * 3 + 2 from rfl, rt_d]
/-- a route that the call has made -/
def OwnR (X Y : Int) (s : ByteArray) (w : World) (base : Nat) (v : Value) (k : Nat) : Prop := w.ownsRow base 67 3 v k (rt X Y s k)
/-- its steps lie there -/
def RtAt (X Y : Int) (s : ByteArray) (w : World) (g : Nat) (k : Nat) : Prop := g < w.heap.size ∧ ∀ i, i < k → w.cell? ⟨g, i * 3, none⟩ = some (.int .i64 (px X s i)) ∧ w.cell? ⟨g, i * 3 + 1, none⟩ = some (.int .i64 (py Y s i)) ∧ w.cell? ⟨g, i * 3 + 2, none⟩ = some (.int .i64 (wy s i))
theorem RtAt.below {X Y : Int} {s : ByteArray} {w w' : World} {g k : Nat} (h : RtAt X Y s w g k) (hb : Below w.heap.size w w') : RtAt X Y s w' g k :=
  ⟨Nat.lt_of_lt_of_le h.1 hb.size, fun i hi => ⟨cell_kept hb (h.2 i hi).1, cell_kept hb (h.2 i hi).2.1, cell_kept hb (h.2 i hi).2.2⟩⟩
theorem OwnR.at {X Y : Int} {s : ByteArray} {w : World} {base g n cap k : Nat} (h : OwnR X Y s w base (.slice (some ⟨g, 0, none⟩) n cap) k) : RtAt X Y s w g k := by
  have hl := (h.lt g rfl).2
  rcases Joins.ownsRow_forms h with ⟨h1, _⟩ | ⟨g', cap', h1⟩
  · cases h1
  · cases h1
    refine ⟨hl, fun i hi => ⟨?_, ?_, ?_⟩⟩
    · rw [h.cellAt (i * 3) (by omega), rt_at _ _ _ _ _ (by omega), rt_x]
    · rw [h.cellAt (i * 3 + 1) (by omega), rt_at _ _ _ _ _ (by omega), rt_y]
    · rw [h.cellAt (i * 3 + 2) (by omega), rt_at _ _ _ _ _ (by omega), rt_d]
theorem infoSt : (Tryd.prog.info? 67).map (fun i => (i.zero, i.size, i.bytes)) = some (some (.agg #[.int .i64 0, .int .i64 0, .int .i64 0]), 3, 24) := by kernel_rfl
theorem infoTu : (Tryd.prog.info? 71).map (fun i => (i.zero, i.size, i.bytes)) = some (some (.int .i64 0), 1, 8) := by kernel_rfl
theorem three_cells_new (w : World) (a b c : Value) (t : TypeId) : ∀ j u, [a, b, c][j]? = some u → (w.alloc (.cells #[a, b, c] t)).cell? ((⟨w.heap.size, 0, none⟩ : Addr).add j) = some u := fun j u h => by
  rw [Addr.add_mid, Nat.zero_add, Joins.cell_of_block (heap_alloc_last w _) j]
  simpa using h

theorem idx_way : ∀ c : UInt8, Lib.indexByte [114, 100, 108, 117] c = wayI (c.toNat : Int) := by
  intro c
  by_cases h1 : c = 114
  · subst h1; rfl
  by_cases h2 : c = 100
  · subst h2; rfl
  by_cases h3 : c = 108
  · subst h3; rfl
  by_cases h4 : c = 117
  · subst h4; rfl
  have k : ∀ d : UInt8, c ≠ d → (c.toNat : Int) ≠ (d.toNat : Int) := fun d hd he => hd (UInt8.toNat_inj.1 (by omega))
  have e1 : (c.toNat : Int) ≠ 114 := k 114 h1
  have e2 : (c.toNat : Int) ≠ 100 := k 100 h2
  have e3 : (c.toNat : Int) ≠ 108 := k 108 h3
  have e4 : (c.toNat : Int) ≠ 117 := k 117 h4
  unfold wayI
  rw [if_neg e1, if_neg e2, if_neg e3, if_neg e4]
  have b1 : ((114 : UInt8) == c) = false := by simp; exact fun h => h1 h.symm
  have b2 : ((100 : UInt8) == c) = false := by simp; exact fun h => h2 h.symm
  have b3 : ((108 : UInt8) == c) = false := by simp; exact fun h => h3 h.symm
  have b4 : ((117 : UInt8) == c) = false := by simp; exact fun h => h4 h.symm
  simp [Lib.indexByte, b1, b2, b3, b4]
theorem idx_byte (s : ByteArray) (k : Nat) (hk : k < s.size) (w : World) : Calls Tryd.prog 66 #[.string ⟨#[114, 100, 108, 117]⟩, .int .u8 ((s[k]'hk).toNat : Int)] w fun e w' => e = .returned (.int .i64 (wy s k)) ∧ w = w' :=
  (Tryd.strings_IndexByte _ _ _).mono fun e w' ⟨he, hw⟩ => ⟨by
    rw [he]
    apply ret_int
    have e1 : (((s[k]'hk).toNat : Int)).toNat.toUInt8 = s[k]'hk := by
      rw [Int.toNat_natCast]
      exact UInt8.ofNat_toNat
    rw [e1]
    unfold wy
    rw [← byI_eq s k hk]
    exact idx_way _, hw.symm⟩
end Go.Proofs.YtlmmeefcnjcceaaDoor
