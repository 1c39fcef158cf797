/- Contracts of single functions, and plain lemmas, on which the exact laws of this seat rest; each holds under the conditions that it states. -/
import Derived.Test.YtnmnlbgialolhaaDoorGL
import Derived.DeepKeys
import Derived.DeepKeys2
namespace Go.Proofs.YtnmnlbgialolhaaDoor
set_option linter.unusedVariables false
set_option linter.unusedSimpArgs false
open Go.RowKit

/-! ### two sizes are the same -/
theorem keyLits_oneM {P : Program} (d : Nat) (t : TypeId) (q : IntKind) (n : Int) (hu : P.underlying t = some (.int q)) (hw : (Lit.int q n).wf = true) : P.keyLits (d + 1) t [.int q n] = some [.int q n] := by
  unfold Program.keyLits
  simp [hu, hw]
theorem mapM_optM {α β : Type} (f : α → Option β) (g : α → β) : ∀ (l : List α), (∀ x ∈ l, f x = some (g x)) → l.mapM f = some (l.map g)
  | [], _ => by simp
  | a :: l, h => by
    rw [List.mapM_cons, h a (by simp), mapM_optM f g l (fun x hx => h x (by simp [hx]))]
    rfl
def zeroL16 : List Value := (List.range 16).map fun _ => .int .u32 0
theorem cells_u32M : Tryd.prog.cellsOf 60 = 1 := by kernel_rfl
theorem cells_i64M : Tryd.prog.cellsOf 2 = 1 := by kernel_rfl
theorem cells_rowsM : Tryd.prog.cellsOf 61 = 16 := by kernel_rfl
theorem cells_matM : Tryd.prog.cellsOf 63 = 18 := by kernel_rfl
theorem under_u32M : Tryd.prog.underlying 60 = some (.int .u32) := by kernel_rfl
theorem under_i64M : Tryd.prog.underlying 2 = some (.int .i64) := by kernel_rfl
theorem keyLits_rowsM (d : Nat) : Tryd.prog.keyLits (d + 1 + 1) 61 zeroL16 = some ((List.range 16).map fun _ => [Lit.int .u32 0]).flatten := by
  unfold Program.keyLits
  rw [Tryd.underlying61]
  show (if zeroL16.length = Tryd.prog.cellsOf 61 then _ else none) = _
  rw [if_pos (by rw [cells_rowsM]; simp [zeroL16])]
  rw [mapM_optM _ (fun _ => [Lit.int .u32 0]) _ (fun i hi => ?_)]
  · rfl
  · have hi2 := List.mem_range.1 hi
    rw [cells_u32M, Nat.mul_one]
    have hl : i < zeroL16.length := by simp [zeroL16]; omega
    rw [List.drop_eq_getElem_cons hl]
    have e : zeroL16[i] = .int .u32 0 := by simp [zeroL16]
    rw [e]
    exact keyLits_oneM d _ _ _ under_u32M rfl
set_option maxRecDepth 20000 in
theorem keyOf_m (a b : Nat) (ha : a ≤ 16) (hb : b ≤ 16) : ∃ l, keyOf Tryd.prog 63 (.agg (mcells a b (fun _ => 0))) = some l := by
  have w1 : ∀ n : Nat, n ≤ 16 → (Lit.int .i64 n).wf = true := fun n hn => by
    show (decide ((-9223372036854775808 : Int) ≤ n) && decide ((n : Int) ≤ 9223372036854775807)) = true
    rw [decide_eq_true (by omega), decide_eq_true (by omega)]
    rfl
  have hkt : Tryd.prog.keyType 63 = true := by kernel_rfl
  have hsz : ∃ d, Tryd.prog.types.size + 1 = d + 1 + 1 + 1 := ⟨Tryd.prog.types.size - 2, by have : 3 ≤ Tryd.prog.types.size := of_decide_eq_true (by kernel_rfl); omega⟩
  obtain ⟨d, hd⟩ := hsz
  have hL : ∃ L, Tryd.prog.keyLits (d + 1 + 1 + 1) 63 (mcells a b (fun _ => 0)).toList = some L := by
    unfold Program.keyLits
    rw [Tryd.underlying63]
    simp only
    rw [if_pos ⟨by rw [cells_matM]; rfl, by kernel_rfl⟩]
    simp only [List.mapM_cons, List.mapM_nil, cells_i64M, cells_rowsM]
    rw [show ((mcells a b (fun _ => 0)).toList.drop 0).take 1 = [.int .i64 a] from rfl, show ((mcells a b (fun _ => 0)).toList.drop 1).take 1 = [.int .i64 b] from rfl,
      show ((mcells a b (fun _ => 0)).toList.drop 2).take 16 = zeroL16 from rfl, keyLits_oneM _ _ _ _ under_i64M (w1 a ha), keyLits_oneM _ _ _ _ under_i64M (w1 b hb), keyLits_rowsM d]
    exact ⟨_, rfl⟩
  obtain ⟨L, hL⟩ := hL
  refine ⟨.string (keyBytes L), ?_⟩
  unfold keyOf
  rw [Tryd.underlying63]
  simp only
  have hf : (Value.agg (mcells a b (fun _ => 0))).formed Tryd.prog 63 = true := by
    unfold Value.formed
    rw [Tryd.underlying63, cells_matM]
    rfl
  rw [hkt, hf, if_pos (by rfl), hd]
  show (Tryd.prog.keyLits (d + 1 + 1 + 1) 63 (mcells a b (fun _ => 0)).toList).map _ = _
  rw [hL]
  rfl
theorem mcells_inj {a b c d : Nat} (h : mcells a b (fun _ => 0) = mcells c d (fun _ => 0)) : a = c ∧ b = d := by
  have h0 := congrArg (fun x : Array Value => x[0]?) h
  have h1 := congrArg (fun x : Array Value => x[1]?) h
  have e0 : (mcells (a : Int) (b : Int) (fun _ => 0))[0]? = some (.int .i64 a) := rfl
  have e1 : (mcells (a : Int) (b : Int) (fun _ => 0))[1]? = some (.int .i64 b) := rfl
  have e2 : (mcells (c : Int) (d : Int) (fun _ => 0))[0]? = some (.int .i64 c) := rfl
  have e3 : (mcells (c : Int) (d : Int) (fun _ => 0))[1]? = some (.int .i64 d) := rfl
  simp only [e0, e2] at h0
  simp only [e1, e3] at h1
  injection h0 with h0
  injection h0 with _ h0
  injection h1 with h1
  injection h1 with _ h1
  exact ⟨Int.ofNat_inj.1 h0, Int.ofNat_inj.1 h1⟩
set_option maxRecDepth 20000 in
theorem eql_m (a b c d : Nat) (w : World) (ha : a ≤ 16) (hb : b ≤ 16) (hc : c ≤ 16) (hd : d ≤ 16) :
    ∃ q : Bool, (Op.equal 63 (.agg (mcells a b (fun _ => 0))) (.agg (mcells c d (fun _ => 0)))).run Tryd.prog w = .ok q w ∧ (q = true ↔ a = c ∧ b = d) := by
  obtain ⟨l1, h1⟩ := keyOf_m a b ha hb
  obtain ⟨l2, h2⟩ := keyOf_m c d hc hd
  obtain ⟨q, hq, hiff⟩ := run_equal_deep (P := Tryd.prog) w (m := 4) (by decide) (k := 63) (by kernel_rfl) (by rw [Tryd.underlying63]) h1 h2
  refine ⟨q, hq, hiff.trans ⟨fun e => ?_, fun e => ?_⟩⟩
  · have key : ∀ {x : Array Value} {l : Lit}, keyOf Tryd.prog 63 (.agg x) = some l → ∃ L, Tryd.prog.keyLits (Tryd.prog.types.size + 1) 63 x.toList = some L ∧ l = .string (keyBytes L) := by
      intro x l h
      unfold keyOf at h
      rw [Tryd.underlying63] at h
      simp only at h
      split at h
      · simp only [Option.map_eq_some_iff] at h
        obtain ⟨L, hl, rfl⟩ := h
        exact ⟨L, hl, rfl⟩
      · cases h
    obtain ⟨L1, k1, rfl⟩ := key h1
    obtain ⟨L2, k2, rfl⟩ := key h2
    have e2 : L1 = L2 := keyLits_inj k1 k2 (by simpa using e)
    have c1 := cells_of_lits (P := Tryd.prog) 4 63 (by kernel_rfl) _ _ _ k1
    have c2 := cells_of_lits (P := Tryd.prog) 4 63 (by kernel_rfl) _ _ _ k2
    rw [e2] at c1
    exact mcells_inj (Array.toList_inj.1 (c1.trans c2.symm))
  · obtain ⟨rfl, rfl⟩ := e
    rw [h1] at h2
    exact Option.some.inj h2
theorem run_eql_m (a b c d : Nat) (ha : a ≤ 16) (hb : b ≤ 16) (hc : c ≤ 16) (hd : d ≤ 16) :
    ∀ w : World, (binOp .eql 63 (.agg (mcells a b (fun _ => 0))) (.agg (mcells c d (fun _ => 0)))).run Tryd.prog w = .ok (.bool (decide (a = c) && decide (b = d))) w := by
  intro w
  obtain ⟨q, h1, h2⟩ := eql_m a b c d w ha hb hc hd
  have hq : q = (decide (a = c) && decide (b = d)) := by
    rw [Bool.eq_iff_iff, h2, Bool.and_eq_true, decide_eq_true_eq, decide_eq_true_eq]
  rw [hq] at h1
  simp [binOp, h1]
end Go.Proofs.YtnmnlbgialolhaaDoor
