/- Contracts of single functions, and plain lemmas, on which the exact laws of this seat rest; each holds under the conditions that it states. -/
import Derived.Test.YtabkkpifkkgpeaaDoorIs
import Derived.Test.YtabkkpifkkgpeaaDoorL3
import Derived.Test.YtabkkpifkkgpeaaDoorRI
import Derived.Test.YtabkkpifkkgpeaaDoorQa
namespace Go.Proofs.YtabkkpifkkgpeaaDoor
set_option linter.unusedVariables false
set_option linter.unusedSimpArgs false
open Go.RowKit

/-! ### borders, plainly -/
def wayI (c : Int) : Int := if c = 114 then 0 else if c = 100 then 1 else if c = 108 then 2 else if c = 117 then 3 else -1
def dX (w : Int) : Int := if w = 0 then 1 else if w = 2 then -1 else 0
def dY (w : Int) : Int := if w = 1 then 1 else if w = 3 then -1 else 0
theorem wayI_range (c : Int) : -1 ≤ wayI c ∧ wayI c ≤ 3 := by unfold wayI; (repeat' split) <;> omega
theorem dX_range (w : Int) : -1 ≤ dX w ∧ dX w ≤ 1 := by unfold dX; (repeat' split) <;> omega
theorem dY_range (w : Int) : -1 ≤ dY w ∧ dY w ≤ 1 := by unfold dY; (repeat' split) <;> omega
/-- the byte k of a text -/
def byI (s : ByteArray) (k : Nat) : Int := ((s.data.toList.getD k 0).toNat : Int)
theorem byI_eq (s : ByteArray) (k : Nat) (h : k < s.size) : ((s[k]'h).toNat : Int) = byI s k := by
  unfold byI
  have h2 : k < s.data.toList.length := by rw [Array.length_toList]; exact h
  rw [List.getD_eq_getElem?_getD, List.getElem?_eq_getElem h2]
  rfl
theorem byI_range (s : ByteArray) (k : Nat) : 0 ≤ byI s k ∧ byI s k < 256 := by
  unfold byI
  have := UInt8.toNat_lt (s.data.toList.getD k 0)
  omega
/-- the direction of the step k -/
def wy (s : ByteArray) (k : Nat) : Int := wayI (byI s k)
theorem wy_range (s : ByteArray) (k : Nat) : -1 ≤ wy s k ∧ wy s k ≤ 3 := wayI_range _
/-- where the border is before the step k -/
def px (X : Int) (s : ByteArray) : Nat → Int
  | 0 => X
  | k + 1 => px X s k + dX (wy s k)
def py (Y : Int) (s : ByteArray) : Nat → Int
  | 0 => Y
  | k + 1 => py Y s k + dY (wy s k)
/-- the step before the step k, around -/
def prv (s : ByteArray) (k : Nat) : Nat := (k + s.size - 1) % s.size
theorem prv_lt (s : ByteArray) (k : Nat) (h : 0 < s.size) : prv s k < s.size := Nat.mod_lt _ h
def corn (x y : Int) : Prop := 0 ≤ x ∧ x ≤ 16 ∧ 0 ≤ y ∧ y ≤ 16
instance (x y : Int) : Decidable (corn x y) := by unfold corn; exact inferInstance
def cornB (x y : Int) : Bool := decide (corn x y)
/-- the turn with which the step k comes -/
def trn (s : ByteArray) (k : Nat) : Int := (wy s k - wy s (prv s k) + 4) % 4
theorem trn_range (s : ByteArray) (k : Nat) : 0 ≤ trn s k ∧ trn s k < 4 := by unfold trn; omega

/-- the first k steps are steps, from corners, and none comes twice -/
def Good (X Y : Int) (s : ByteArray) (k : Nat) : Prop :=
  ∀ j : Nat, j < k → 0 ≤ wy s j ∧ corn (px X s j) (py Y s j) ∧ ∀ i : Nat, i < j → ¬ (px X s i = px X s j ∧ py Y s i = py Y s j ∧ wy s i = wy s j)
theorem Good.zero (X Y : Int) (s : ByteArray) : Good X Y s 0 := fun j h => absurd h (Nat.not_lt_zero j)
theorem Good.mono {X Y : Int} {s : ByteArray} {k m : Nat} (h : Good X Y s m) (hk : k ≤ m) : Good X Y s k := fun j hj => h j (Nat.lt_of_lt_of_le hj hk)
theorem Good.snoc {X Y : Int} {s : ByteArray} {k : Nat} (h : Good X Y s k) (h1 : 0 ≤ wy s k) (h2 : corn (px X s k) (py Y s k)) (h3 : ∀ i : Nat, i < k → ¬ (px X s i = px X s k ∧ py Y s i = py Y s k ∧ wy s i = wy s k)) : Good X Y s (k + 1) := fun j hj => by
  by_cases e : j = k
  · subst e; exact ⟨h1, h2, h3⟩
  · exact h j (by omega)

/-- a border -/
def OKb (X Y : Int) (s : ByteArray) : Prop :=
  4 ≤ s.size ∧ s.size ≤ 600 ∧ Good X Y s s.size ∧ px X s s.size = X ∧ py Y s s.size = Y ∧ ∀ k : Nat, k < s.size → trn s k ≠ 2
noncomputable def okb (X Y : Int) (s : ByteArray) : Bool := @decide (OKb X Y s) (Classical.propDecidable _)
theorem okb_yes {X Y : Int} {s : ByteArray} (h : OKb X Y s) : okb X Y s = true := @decide_eq_true _ (Classical.propDecidable _) h
theorem okb_no {X Y : Int} {s : ByteArray} (h : ¬ OKb X Y s) : okb X Y s = false := @decide_eq_false _ (Classical.propDecidable _) h
theorem okb_of {X Y : Int} {s : ByteArray} (h : okb X Y s = true) : OKb X Y s := @of_decide_eq_true _ (Classical.propDecidable _) h

theorem prv_cast (s : ByteArray) (k : Nat) (h : 0 < s.size) : (((k : Int) + (s.size : Int) - 1) % (s.size : Int)) = (prv s k : Int) := by
  unfold prv
  have : (k : Int) + (s.size : Int) - 1 = ((k + s.size - 1 : Nat) : Int) := by omega
  rw [this]
  rfl
end Go.Proofs.YtabkkpifkkgpeaaDoor

/- Contracts of single functions, and plain lemmas, on which the exact laws of this seat rest; each holds under the conditions that it states. -/
namespace Go.Proofs.YtabkkpifkkgpeaaDoor
set_option linter.unusedVariables false
set_option linter.unusedSimpArgs false
open Go.RowKit
attribute [local go_sem] Oper.semAt_some

/-! ### a plane moved by all offsets -/
def mvA (k : Nat) (g : Nat → Nat) : List (Int × Int) → Nat → Nat
  | [] => fun _ => 0
  | o :: os => os.foldl (fun acc o => mgG k acc (mvG g o.1 o.2 24) 24) (mvG g o.1 o.2 24)
theorem mvA_take (k : Nat) (g : Nat → Nat) (xs : List (Int × Int)) (i : Nat) (h0 : 1 ≤ i) (hi : i < xs.length) : mvA k g (xs.take (i + 1)) = mgG k (mvA k g (xs.take i)) (mvG g (xs.getD i (0, 0)).1 (xs.getD i (0, 0)).2 24) 24 := by
  cases xs with
  | nil => simp at hi
  | cons o os =>
    obtain ⟨j, rfl⟩ : ∃ j, i = j + 1 := ⟨i - 1, by omega⟩
    rw [List.take_succ_cons, List.take_succ_cons]
    have hj : j < os.length := by simpa using hi
    rw [List.take_add_one, List.getElem?_eq_getElem hj]
    simp only [mvA, Option.toList_some, List.foldl_append, List.foldl_cons, List.foldl_nil]
    simp [List.getD, hj]
theorem mvG_plw (g : Nat → Nat) (dx dy : Int) (Y : Nat) : PlW (mvG g dx dy Y) := fun j => by
  unfold mvG
  split
  · exact shW_lt24 _ _
  · omega
theorem mgG_plw (k : Nat) (g h : Nat → Nat) (Y : Nat) (hg : PlW g) (hh : PlW h) : PlW (mgG k g h Y) := fun j => by
  unfold mgG
  split
  · exact jn_lt k _ _ (hg j) (hh j)
  · exact hg j
theorem mvA_plw (k : Nat) (g : Nat → Nat) (xs : List (Int × Int)) : PlW (mvA k g xs) := by
  cases xs with
  | nil => exact fun j => by show 0 < 16777216; omega
  | cons o os =>
    have : ∀ (os : List (Int × Int)) (acc : Nat → Nat), PlW acc → PlW (os.foldl (fun acc o => mgG k acc (mvG g o.1 o.2 24) 24) acc) := by
      intro os
      induction os with
      | nil => intro acc h; exact h
      | cons o os ih => intro acc h; rw [List.foldl_cons]; exact ih _ (mgG_plw k _ _ 24 h (mvG_plw _ _ _ _))
    exact this os _ (mvG_plw _ _ _ _)

set_option maxHeartbeats 4000000 in
set_option maxRecDepth 100000 in
theorem movedAll_any (k a b : Nat) (g : Nat → Nat) (v : Value) (xs : List (Int × Int)) (w : World) (hk : k < 4) (hg : PlW g) (hv : SlS w v xs) (hcap : ∀ ao n c, v = .slice ao n c → n ≤ c) (hpos : 0 < xs.length) (hlen : xs.length ≤ 81)
    (hr : ∀ o ∈ xs, (-4 ≤ o.1 ∧ o.1 ≤ 4) ∧ (-4 ≤ o.2 ∧ o.2 ≤ 4)) :
    Calls Tryd.prog 135 #[.agg (pl a b g), .agg #[v], ruleV k] w fun e w' => e = .returned (.agg (pl a b (mvA k g xs))) ∧ Below w.heap.size w w' := by
  obtain ⟨eb, cap, rfl, hbl, hcs⟩ : ∃ b cap, v = .slice (some ⟨b, 0, none⟩) xs.length cap ∧ Spots w b xs := by
    rcases hv with ⟨ao, cap, rfl, rfl⟩ | ⟨b, cap, rfl, _, h⟩
    · exact absurd hpos (by simp)
    · exact ⟨b, cap, rfl, h⟩
  have hcn : xs.length ≤ cap := hcap _ _ _ rfl
  clear hcap hv
  have hrd : ∀ i, i < xs.length → (-4 ≤ (xs.getD i (0, 0)).1 ∧ (xs.getD i (0, 0)).1 ≤ 4) ∧ (-4 ≤ (xs.getD i (0, 0)).2 ∧ (xs.getD i (0, 0)).2 ≤ 4) := fun i hi => hr _ (by rw [List.getD_eq_getElem?_getD, List.getElem?_eq_getElem hi]; exact List.getElem_mem hi)
  obtain ⟨M, hM⟩ : ∃ M, pl a b g = M := ⟨_, rfl⟩
  have hsz : ∀ f, (pl a b f).size = 26 := fun f => rfl
  have HIf : Hid (∀ f, (Tryd.prog.info? 113).map (·.size) = some (pl a b f).size) := fun f => infoPl
  have HI : Hid ((Tryd.prog.info? 113).map (·.size) = some M.size) := by show _ = _; rw [← hM]; exact infoPl
  have CVa : Hid (∀ i, i < xs.length → ∀ W, Calls Tryd.prog 157 #[.agg M, .agg #[.int .i64 (xs.getD i (0, 0)).1, .int .i64 (xs.getD i (0, 0)).2]] W fun e w' => e = .returned (.agg (pl a b (mvG g (xs.getD i (0, 0)).1 (xs.getD i (0, 0)).2 24))) ∧ Below W.heap.size W w') := fun i hi W => by
    rw [← hM]
    exact moved_any a b g _ _ W hg (hrd i hi).1 (hrd i hi).2
  have CGa : Hid (∀ i, ∀ dx dy : Int, ∀ W, Calls Tryd.prog 84 #[.agg (pl a b (mvA k g (xs.take i))), .agg (pl a b (mvG g dx dy 24)), ruleV k] W fun e w' => e = .returned (.agg (pl a b (mgG k (mvA k g (xs.take i)) (mvG g dx dy 24) 24))) ∧ Below W.heap.size W w') := fun i dx dy W => merged_any k a b a b _ _ W hk (mvA_plw _ _ _) (mvG_plw _ _ _ _)
  have HTk : Hid (∀ i, 1 ≤ i → i < xs.length → mvA k g (xs.take (i + 1)) = mgG k (mvA k g (xs.take i)) (mvG g (xs.getD i (0, 0)).1 (xs.getD i (0, 0)).2 24) 24) := fun i h1 h2 => mvA_take k g xs i h1 h2
  have HT1 : Hid (mvA k g (xs.take 1) = mvG g (xs.getD 0 (0, 0)).1 (xs.getD 0 (0, 0)).2 24) := by
    cases xs with
    | nil => simp at hpos
    | cons o os => rfl
  have HTn : Hid (mvA k g (xs.take xs.length) = mvA k g xs) := by show _ = _; rw [List.take_length]
  obtain ⟨PR, hPR⟩ : ∃ P, pl a b (mvA k g xs) = P := ⟨_, rfl⟩
  have HPR := Lib.hid hPR
  have hszr : PR.size = 26 := by rw [← hPR]; rfl
  have HI4 : Hid ((Tryd.prog.info? 113).map (·.size) = some PR.size) := by show _ = _; rw [hszr]; exact infoPl
  have HI5 : Hid (zerosP.size = PR.size) := by show _ = _; rw [hszr]; rfl
  have HI6 : Hid (PR.all (·.oneCell') = true) := by show _ = _; rw [← hPR]; exact pl_one _ _ _
  rw [hM, hPR]
  obtain ⟨W0, hW0⟩ : ∃ W0, ((w.alloc (.cells M 113)).alloc (.cells #[.slice (some ⟨eb, 0, none⟩) xs.length cap] 46)).alloc (.cells #[.int .i64 0, .int .i64 0, .int .u32 0, .int .u32 0, .int .u32 0, .int .u32 0, .int .u32 0, .int .u32 0, .int .u32 0, .int .u32 0, .int .u32 0, .int .u32 0, .int .u32 0, .int .u32 0, .int .u32 0, .int .u32 0, .int .u32 0, .int .u32 0, .int .u32 0, .int .u32 0, .int .u32 0, .int .u32 0, .int .u32 0, .int .u32 0, .int .u32 0, .int .u32 0] 113) = W0 := ⟨_, rfl⟩
  have hz : zerosP = #[.int .i64 0, .int .i64 0, .int .u32 0, .int .u32 0, .int .u32 0, .int .u32 0, .int .u32 0, .int .u32 0, .int .u32 0, .int .u32 0, .int .u32 0, .int .u32 0, .int .u32 0, .int .u32 0, .int .u32 0, .int .u32 0, .int .u32 0, .int .u32 0, .int .u32 0, .int .u32 0, .int .u32 0, .int .u32 0, .int .u32 0, .int .u32 0, .int .u32 0, .int .u32 0] := rfl
  have hw0 : W0.heap.size = w.heap.size + 1 + 1 + 1 := by rw [← hW0]; simp
  have hb0 : Below w.heap.size w W0 := by rw [← hW0]; exact Joins.below_alloc3 _ _ _ _
  have hq0 : W0.heap[w.heap.size]? = some (.cells M 113 (0, 0)) := by
    rw [← hW0, Below.heap_alloc _ _ _ (by simp; omega), Below.heap_alloc _ _ _ (by simp)]; exact heap_alloc_last w _
  have he0 : W0.heap[w.heap.size + 1]? = some (.cells #[.slice (some ⟨eb, 0, none⟩) xs.length cap] 46 (0, 0)) := by
    rw [← hW0, Below.heap_alloc _ _ _ (by simp)]
    exact heap_alloc2_new _ _ _
  have hr0 : W0.heap[w.heap.size + 1 + 1]? = some (.cells zerosP 113 (0, 0)) := by
    rw [← hW0, hz]
    have := heap_alloc_last ((w.alloc (.cells M 113)).alloc (.cells #[.slice (some ⟨eb, 0, none⟩) xs.length cap] 46)) (.cells #[.int .i64 0, .int .i64 0, .int .u32 0, .int .u32 0, .int .u32 0, .int .u32 0, .int .u32 0, .int .u32 0, .int .u32 0, .int .u32 0, .int .u32 0, .int .u32 0, .int .u32 0, .int .u32 0, .int .u32 0, .int .u32 0, .int .u32 0, .int .u32 0, .int .u32 0, .int .u32 0, .int .u32 0, .int .u32 0, .int .u32 0, .int .u32 0, .int .u32 0, .int .u32 0] 113)
    simpa only [World.size_alloc] using this
  have HW0 := Lib.hid hW0
  have l0 : w.heap.size + 1 + 1 < W0.heap.size := by omega
  have HB0 := Lib.hid hb0
  have HS0 : Hid (∀ W, Below W0.heap.size W0 W → W.heap[w.heap.size]? = some (.cells M 113 (0, 0))) := fun W hb => (hb.block _ (Array.getElem?_eq_some_iff.1 hq0).1).trans hq0
  have HE0 : Hid (∀ W, Below W0.heap.size W0 W → W.cell? ⟨w.heap.size + 1, 0, none⟩ = some (.slice (some ⟨eb, 0, none⟩) xs.length cap)) := fun W hb => cell_kept hb (cell_of_one he0)
  have HR0 : Hid (∀ W, Below W0.heap.size W0 W → W.heap[w.heap.size + 1 + 1]? = some (.cells zerosP 113 (0, 0))) := fun W hb => (hb.block _ (Array.getElem?_eq_some_iff.1 hr0).1).trans hr0
  have HCs : Hid (∀ W, Below w.heap.size w W → ∀ i, i < xs.length → W.cell? ⟨eb, i * 2, none⟩ = some (.int .i64 (xs.getD i (0, 0)).1) ∧ W.cell? ⟨eb, i * 2 + 1, none⟩ = some (.int .i64 (xs.getD i (0, 0)).2)) := fun W hb i hi => ⟨cell_kept hb (hcs i hi).1, cell_kept hb (hcs i hi).2⟩
  have HX0 : Hid (∀ W, Below W0.heap.size W0 W → W.cell? ⟨eb, 0, none⟩ = some (.int .i64 (xs.getD 0 (0, 0)).1) ∧ W.cell? ⟨eb, 1, none⟩ = some (.int .i64 (xs.getD 0 (0, 0)).2)) := fun W hb => by
    have h := HCs.out W (HB0.out.trans (hb.mono HB0.out.size)) 0 hpos
    rwa [Nat.zero_mul] at h
  have CV0 := Lib.hid (CVa.out 0 hpos)
  obtain ⟨n, hn⟩ : ∃ n, xs.length = n := ⟨_, rfl⟩
  obtain ⟨gx, hgx⟩ : ∃ gx : Nat → Int × Int, ∀ i, xs.getD i (0, 0) = gx i := ⟨fun i => xs.getD i (0, 0), fun _ => rfl⟩
  obtain ⟨ac, hac⟩ : ∃ ac : Nat → Nat → Nat, ∀ i, mvA k g (xs.take i) = ac i := ⟨fun i => mvA k g (xs.take i), fun _ => rfl⟩
  simp only [hgx, hac] at CVa CGa HTk HT1 HTn HCs HX0 CV0 hrd
  rw [hn] at CVa HTk HTn HCs hpos hlen HE0 HW0 hcn ⊢
  obtain ⟨⟨x0, y0⟩, hg0⟩ : ∃ p, gx 0 = p := ⟨_, rfl⟩
  rw [hg0] at HT1 HX0 CV0
  obtain ⟨M0, hM0⟩ : ∃ P, pl a b (mvG g x0 y0 24) = P := ⟨_, rfl⟩
  have hT1' : pl a b (ac 1) = M0 := by rw [HT1.out]; exact hM0
  have HM0 := Lib.hid hT1'
  have HI0 : Hid ((Tryd.prog.info? 113).map (·.size) = some M0.size) := by show _ = _; rw [← hM0]; exact infoPl
  have HZ0 : Hid (Array.size (α := Value) #[.int .i64 0, .int .i64 0, .int .u32 0, .int .u32 0, .int .u32 0, .int .u32 0, .int .u32 0, .int .u32 0, .int .u32 0, .int .u32 0, .int .u32 0, .int .u32 0, .int .u32 0, .int .u32 0, .int .u32 0, .int .u32 0, .int .u32 0, .int .u32 0, .int .u32 0, .int .u32 0, .int .u32 0, .int .u32 0, .int .u32 0, .int .u32 0, .int .u32 0, .int .u32 0] = M0.size) := by show _ = _; rw [← hM0]; rfl
  have HO0 : Hid (M0.all (·.oneCell') = true) := by show _ = _; rw [← hM0]; exact pl_one _ _ _
  rw [show pl a b (mvG g (x0, y0).1 (x0, y0).2 24) = M0 from hM0] at CV0
  unfold ruleV
  have hPa : ∀ i, (pl a b (ac i)).size = 26 := fun i => rfl
  have hrule : ruleV k = (.func (.func 85) #[.int .i64 k] #[]) := rfl
  rw [hrule] at CGa
  have HMg := Lib.hid hM
  clear hn hgx hac hg0 hM0 hT1' hM hPR hszr hW0 hz hw0 hb0 hq0 he0 hr0 hcs hg hr HT1 hPa hrule HIf hsz hrd
  go_enter Tryd.func135, Tryd.ntmps135
  go_upto_region 1 with fail
  rw [HW0.out]
  refine wp_region_inv_at (by kernel_rfl) (fun A0 L A W => ∃ (b0 b1 b2 b3 b4 b5 b6 b7 : Bool) (v10 v11 v12 v13 v14 v15 v7 : Value), L = #[b0, b1, b2, b3, b4, b5, b6, b7] ∧ A = (((((((A0.put (some 10) v10).put (some 11) v11).put (some 12) v12).put (some 13) v13).put (some 14) v14).put (some 15) v15).put (some 7) v7) ∧ (Below W0.heap.size W0 W) ∧ Hid (b0 = true → v10 = .agg M) ∧ Hid (b1 = true → v11 = .pointer (some ⟨w.heap.size + 1, 0, none⟩)) ∧ Hid (b2 = true → v12 = .slice (some ⟨eb, 0, none⟩) n cap) ∧ Hid (b3 = true → v13 = .pointer (some ⟨eb, 0, none⟩)) ∧ Hid (b4 = true → v14 = .agg #[.int .i64 x0, .int .i64 y0]) ∧ Hid (b5 = true → v15 = .agg M0) ∧ Hid (b6 = true → ∃ mb, v7 = .pointer (some ⟨mb, 0, none⟩) ∧ W0.heap.size ≤ mb ∧ W.heap[mb]? = some (.cells (if b7 = true then M0 else #[.int .i64 0, .int .i64 0, .int .u32 0, .int .u32 0, .int .u32 0, .int .u32 0, .int .u32 0, .int .u32 0, .int .u32 0, .int .u32 0, .int .u32 0, .int .u32 0, .int .u32 0, .int .u32 0, .int .u32 0, .int .u32 0, .int .u32 0, .int .u32 0, .int .u32 0, .int .u32 0, .int .u32 0, .int .u32 0, .int .u32 0, .int .u32 0, .int .u32 0, .int .u32 0]) 113 (0, 0))) ∧ Hid (b6 = false → b7 = false)) ?_ ?_ ?_
  · intro A0
    refine ⟨false, false, false, false, false, false, false, false, A0.tmps.getD 10 undef, A0.tmps.getD 11 undef, A0.tmps.getD 12 undef, A0.tmps.getD 13 undef, A0.tmps.getD 14 undef, A0.tmps.getD 15 undef, A0.tmps.getD 7 undef, rfl, (by simp only [put_self]), (Below.refl _ _).drew, Lib.hid (fun hf => by cases hf), Lib.hid (fun hf => by cases hf), Lib.hid (fun hf => by cases hf), Lib.hid (fun hf => by cases hf), Lib.hid (fun hf => by cases hf), Lib.hid (fun hf => by cases hf), Lib.hid (fun hf => by cases hf), Lib.hid (fun _ => rfl)⟩
  · intro L A W hI i hi o ho K' hK
    have hlt := (ready_left hi).1
    have hun := (ready_left hi).2
    have haf := ready_after hi ho
    clear hi
    obtain ⟨b0, b1, b2, b3, b4, b5, b6, b7, v10, v11, v12, v13, v14, v15, v7, rfl, rfl, hB, h0, h1, h2, h3, h4, h5, h6, n6⟩ := hI
    have hc : i = 0 ∨ i = 1 ∨ i = 2 ∨ i = 3 ∨ i = 4 ∨ i = 5 ∨ i = 6 ∨ i = 7 := by
      simp at hlt
      omega
    have qM := HS0.out W hB
    have qe := HE0.out W hB
    have q0 := (HX0.out W hB).1
    have q1 := (HX0.out W hB).2
    rcases hc with rfl | rfl | rfl | rfl | rfl | rfl | rfl | rfl
    all_goals (obtain rfl := Option.some.inj ho; clear ho; simp [Region.binds] at haf hun; (try simp only [List.getElem_toArray, List.getElem_cons_zero, List.getElem_cons_succ]); simp only [Act.put, List.setIfInBounds_toArray, List.set_cons_zero, List.set_cons_succ])
    · -- operation 0
      replace hK := Lib.hid hK
      subst hun
      rw [if_pos (by simp [Region.wanted])]
      refine wp_load_row 113 _ rfl w.heap.size rfl 113 M (0, 0) _ qM Tryd.underlying113 rfl HI.out ?_
      exact hK.out _ _ ⟨true, b1, b2, b3, b4, b5, b6, b7, .agg M, v11, v12, v13, v14, v15, v7, rfl, (by simp only [Act.put, List.setIfInBounds_toArray, List.set_cons_zero, List.set_cons_succ]), hB, Lib.hid (fun _ => rfl), h1, h2, h3, h4, h5, h6, n6⟩
    · -- operation 1
      replace hK := Lib.hid hK
      subst hun
      go_simp
      exact hK.out _ _ ⟨b0, true, b2, b3, b4, b5, b6, b7, v10, .pointer (some ⟨w.heap.size + 1, 0, none⟩), v12, v13, v14, v15, v7, rfl, (by simp only [Act.put, List.setIfInBounds_toArray, List.set_cons_zero, List.set_cons_succ]), hB, h0, Lib.hid (fun _ => rfl), h2, h3, h4, h5, h6, n6⟩
    · -- operation 2
      replace hK := Lib.hid hK
      obtain rfl := h1.out (by simp only [haf])
      subst hun
      go_simp
      exact hK.out _ _ ⟨b0, b1, true, b3, b4, b5, b6, b7, v10, .pointer (some ⟨w.heap.size + 1, 0, none⟩), .slice (some ⟨eb, 0, none⟩) n cap, v13, v14, v15, v7, rfl, (by simp only [Act.put, List.setIfInBounds_toArray, List.set_cons_zero, List.set_cons_succ]), hB, h0, Lib.hid (fun _ => rfl), Lib.hid (fun _ => rfl), h3, h4, h5, h6, n6⟩
    · -- operation 3
      replace hK := Lib.hid hK
      obtain rfl := h2.out (by simp only [haf])
      subst hun
      go_simp
      exact hK.out _ _ ⟨b0, b1, b2, true, b4, b5, b6, b7, v10, v11, .slice (some ⟨eb, 0, none⟩) n cap, .pointer (some ⟨eb, 0, none⟩), v14, v15, v7, rfl, (by simp only [Act.put, List.setIfInBounds_toArray, List.set_cons_zero, List.set_cons_succ]), hB, h0, h1, Lib.hid (fun _ => rfl), Lib.hid (fun _ => rfl), h4, h5, h6, n6⟩
    · -- operation 4
      replace hK := Lib.hid hK
      obtain rfl := h3.out (by simp only [haf])
      subst hun
      go_simp
      exact hK.out _ _ ⟨b0, b1, b2, b3, true, b5, b6, b7, v10, v11, v12, .pointer (some ⟨eb, 0, none⟩), .agg #[.int .i64 x0, .int .i64 y0], v15, v7, rfl, (by simp only [Act.put, List.setIfInBounds_toArray, List.set_cons_zero, List.set_cons_succ]), hB, h0, h1, h2, Lib.hid (fun _ => rfl), Lib.hid (fun _ => rfl), h5, h6, n6⟩
    · -- operation 5
      replace hK := Lib.hid hK
      obtain rfl := h0.out (by simp only [haf])
      obtain rfl := h4.out (by simp only [haf])
      subst hun
      go_simp
      refine (CV0.out _).mono ?_
      rintro e W' ⟨rfl, hb⟩
      have hkept := fun kb (hk : kb < W.heap.size) => hb.block kb hk
      exact hK.out _ _ ⟨b0, b1, b2, b3, b4, true, b6, b7, .agg M, v11, v12, v13, .agg #[.int .i64 x0, .int .i64 y0], .agg M0, v7, rfl, (by simp only [Act.put, List.setIfInBounds_toArray, List.set_cons_zero, List.set_cons_succ]), hB.trans (hb.mono hB.size), Lib.hid (fun _ => rfl), h1, h2, h3, Lib.hid (fun _ => rfl), Lib.hid (fun _ => rfl), Lib.hid (fun hx => by obtain ⟨kb, e1, e2, e3⟩ := h6.out hx; exact ⟨kb, e1, e2, (hkept kb (Array.getElem?_eq_some_iff.1 e3).1).trans e3⟩), n6⟩
    · -- operation 6
      replace hK := Lib.hid hK
      subst hun
      have hbs : b7 = false := n6.out rfl
      subst hbs
      go_simp
      have hkept := fun kb (hk : kb < W.heap.size) => Below.heap_alloc W (.cells #[.int .i64 0, .int .i64 0, .int .u32 0, .int .u32 0, .int .u32 0, .int .u32 0, .int .u32 0, .int .u32 0, .int .u32 0, .int .u32 0, .int .u32 0, .int .u32 0, .int .u32 0, .int .u32 0, .int .u32 0, .int .u32 0, .int .u32 0, .int .u32 0, .int .u32 0, .int .u32 0, .int .u32 0, .int .u32 0, .int .u32 0, .int .u32 0, .int .u32 0, .int .u32 0] 113) kb hk
      have hb := Joins.below_alloc1 W (.cells #[.int .i64 0, .int .i64 0, .int .u32 0, .int .u32 0, .int .u32 0, .int .u32 0, .int .u32 0, .int .u32 0, .int .u32 0, .int .u32 0, .int .u32 0, .int .u32 0, .int .u32 0, .int .u32 0, .int .u32 0, .int .u32 0, .int .u32 0, .int .u32 0, .int .u32 0, .int .u32 0, .int .u32 0, .int .u32 0, .int .u32 0, .int .u32 0, .int .u32 0, .int .u32 0] 113)
      exact hK.out _ _ ⟨b0, b1, b2, b3, b4, b5, true, false, v10, v11, v12, v13, v14, v15, .pointer (some ⟨W.heap.size, 0, none⟩), rfl, (by simp only [Act.put, List.setIfInBounds_toArray, List.set_cons_zero, List.set_cons_succ]), hB.alloc hB.size _, h0, h1, h2, h3, h4, h5, Lib.hid (fun _ => ⟨_, rfl, hB.size, heap_alloc_last W _⟩), Lib.hid (fun hf => by cases hf)⟩
    · -- operation 7
      replace hK := Lib.hid hK
      obtain rfl := h5.out (by simp only [haf])
      obtain ⟨mb, rfl, hmb, hm2⟩ := h6.out (by simp only [haf])
      subst hun
      simp only [Bool.false_eq_true, if_false] at hm2
      rw [if_pos (by simp [Region.wanted])]
      refine wp_store_row 113 _ _ rfl mb M0 rfl rfl 113 (#[.int .i64 0, .int .i64 0, .int .u32 0, .int .u32 0, .int .u32 0, .int .u32 0, .int .u32 0, .int .u32 0, .int .u32 0, .int .u32 0, .int .u32 0, .int .u32 0, .int .u32 0, .int .u32 0, .int .u32 0, .int .u32 0, .int .u32 0, .int .u32 0, .int .u32 0, .int .u32 0, .int .u32 0, .int .u32 0, .int .u32 0, .int .u32 0, .int .u32 0, .int .u32 0]) hm2 HI0.out HZ0.out HO0.out ?_
      have hnew : (W.setRow mb M0).heap[mb]? = some (.cells M0 113 (0, 0)) := setRow_heap _ _ _ _ _ _ hm2
      have hBn := setRow_below hB hmb M0
      have hoth : ∀ kb, kb ≠ mb → (W.setRow mb M0).heap[kb]? = W.heap[kb]? := fun kb hk => setRow_other W mb kb M0 hk
      exact hK.out _ _ ⟨b0, b1, b2, b3, b4, b5, b6, true, v10, v11, v12, v13, v14, .agg M0, .pointer (some ⟨mb, 0, none⟩), rfl, (by simp only [Act.put, List.setIfInBounds_toArray, List.set_cons_zero, List.set_cons_succ]), hBn, h0, h1, h2, h3, h4, Lib.hid (fun _ => rfl), Lib.hid (fun _ => ⟨mb, rfl, hmb, hnew⟩), Lib.hid (fun hf => absurd (show false = true from hf.symm.trans (by simp only [haf])) (by decide))⟩
  intro L A W hI hr
  obtain ⟨b0, b1, b2, b3, b4, b5, b6, b7, v10, v11, v12, v13, v14, v15, v7, rfl, rfl, hB, h0, h1, h2, h3, h4, h5, h6, n6⟩ := hI
  have d0 := ready_done hr 0 _ rfl (by simp [Region.binds])
  have d1 := ready_done hr 1 _ rfl (by simp [Region.binds])
  have d6 := ready_done hr 6 _ rfl (by simp [Region.binds])
  simp at d0 d1 d6
  subst d0 d1 d6
  have d2 := ready_done hr 2 _ rfl (by simp [Region.binds])
  simp at d2
  subst d2
  have d3 := ready_done hr 3 _ rfl (by simp [Region.binds])
  simp at d3
  subst d3
  have d4 := ready_done hr 4 _ rfl (by simp [Region.binds])
  simp at d4
  subst d4
  have d5 := ready_done hr 5 _ rfl (by simp [Region.binds])
  simp at d5
  subst d5
  have d7 := ready_done hr 7 _ rfl (by simp [Region.binds])
  simp at d7
  subst d7
  obtain rfl := h0.out rfl
  obtain rfl := h1.out rfl
  obtain rfl := h2.out rfl
  obtain rfl := h3.out rfl
  obtain rfl := h4.out rfl
  obtain rfl := h5.out rfl
  obtain ⟨mb6, rfl, hmb6, hm6⟩ := h6.out rfl
  simp only [Act.put, List.setIfInBounds_toArray, List.set_cons_zero, List.set_cons_succ]
  clear hr h0 h1 h2 h3 h4 h5 h6 n6
  have HA := Lib.hid hm6
  have HAl := Lib.hid hmb6
  have HB := Lib.hid hB
  clear hm6 hmb6 hB
  have qe := HE0.out W HB.out
  have ke : w.heap.size + 1 + 1 < mb6 := Nat.lt_of_lt_of_le l0 HAl.out
  have n1 : (1 : Int) ≤ (n : Int) := by omega
  have HMa := Lib.hid (HS0.out W HB.out)
  have HRa := Lib.hid (HR0.out W HB.out)
  have HBa := Lib.hid (HB0.out.trans (HB.out.mono HB0.out.size))
  clear HX0 CV0 HS0 HE0 HR0 HB0 HB
  by_cases hc1 : cap = 1
  · obtain rfl : n = 1 := by omega
    subst hc1
    go_wp2
    go_loopw [20] (fun iv wr => iv = .int .i64 0 ∧ wr.heap[w.heap.size + 1 + 1]? = some (.cells zerosP 113 (0, 0)) ∧ wr.heap[mb6]? = some (.cells (pl a b (ac 1)) 113 (0, 0)) ∧ Below w.heap.size w wr) (fun iv _ => 0)
    case atStart => exact ⟨rfl, HRa.out, by rw [HM0.out]; exact HA.out, HBa.out⟩
    case round =>
      obtain ⟨rfl, hr, ha, hbel⟩ := hrel
      have R3 := Lib.hid hr
      have A3 := Lib.hid ha
      have B3 := Lib.hid hbel
      clear hr ha hbel
      rw [HTn.out, HPR.out] at A3
      clear HCs CVa CGa HTk
      go_wp2_with (first | (refine wpList_load_row rfl 113 _ rfl mb6 rfl 113 PR (0, 0) _ A3.out Tryd.underlying113 rfl HI4.out ?_) | (refine wpList_store_row rfl 113 _ _ rfl (w.heap.size + 1 + 1) PR rfl rfl 113 zerosP R3.out HI4.out HI5.out HI6.out ?_))
      exact bodyPost_ret (results_cell1 (p := 6) (ty := 113) Tryd.results135 _ _ (w.heap.size + 1 + 1) 113 PR (0, 0) _ rfl (setRow_heap _ _ _ _ _ _ R3.out) Tryd.underlying113 rfl HI4.out) rfl ⟨rfl, setRow_below B3.out (by omega) _⟩
  go_wp2
  go_loopw [20] (fun iv wr => ∃ i : Nat, i + 1 ≤ n ∧ iv = .int .i64 i ∧ wr.heap[w.heap.size]? = some (.cells M 113 (0, 0)) ∧ wr.heap[w.heap.size + 1 + 1]? = some (.cells zerosP 113 (0, 0)) ∧ wr.heap[mb6]? = some (.cells (pl a b (ac (i + 1))) 113 (0, 0)) ∧ Below w.heap.size w wr) (fun iv _ => n - (intOf iv).toNat)
  case atStart => exact ⟨0, by omega, rfl, HMa.out, HRa.out, by rw [HM0.out]; exact HA.out, HBa.out⟩
  case round =>
    obtain ⟨i, hi, rfl, hm, hr, ha, hbel⟩ := hrel
    have M3 := Lib.hid hm
    have R3 := Lib.hid hr
    have A3 := Lib.hid ha
    have B3 := Lib.hid hbel
    have l3 : mb6 < wr.heap.size := (Array.getElem?_eq_some_iff.1 ha).1
    clear hm hr ha hbel
    by_cases hlt : i + 1 < n
    · have ki : (i : Int) < (n : Int) - 1 := by omega
      have hc := HCs.out wr B3.out (i + 1) hlt
      have CV := Lib.hid (CVa.out (i + 1) hlt)
      have HT := Lib.hid (HTk.out (i + 1) (by omega) hlt)
      obtain ⟨⟨dx, dy⟩, hgi⟩ : ∃ p, gx (i + 1) = p := ⟨_, rfl⟩
      rw [hgi] at hc CV HT
      have CG := Lib.hid (CGa.out (i + 1) dx dy)
      obtain ⟨MV, hMV⟩ : ∃ P, pl a b (mvG g dx dy 24) = P := ⟨_, rfl⟩
      have hMV' : pl a b (mvG g (dx, dy).1 (dx, dy).2 24) = MV := hMV
      rw [hMV'] at CV
      rw [hMV] at CG
      obtain ⟨AC, hAC⟩ : ∃ P, pl a b (ac (i + 1)) = P := ⟨_, rfl⟩
      obtain ⟨NX, hNX⟩ : ∃ P, pl a b (mgG k (ac (i + 1)) (mvG g dx dy 24) 24) = P := ⟨_, rfl⟩
      have HT' : pl a b (ac (i + 1 + 1)) = NX := by rw [HT.out]; exact hNX
      have HNX := Lib.hid HT'
      have HIa : Hid ((Tryd.prog.info? 113).map (·.size) = some AC.size) := by show _ = _; rw [← hAC]; exact infoPl
      have HIn : Hid ((Tryd.prog.info? 113).map (·.size) = some NX.size) := by show _ = _; rw [← hNX]; exact infoPl
      have HZn : Hid (AC.size = NX.size) := by show _ = _; rw [← hAC, ← hNX]; rfl
      have HOn : Hid (NX.all (·.oneCell') = true) := by show _ = _; rw [← hNX]; exact pl_one _ _ _
      rw [hAC, hNX] at CG
      rw [hAC] at A3
      have e0 : wr.cell? ⟨eb, 2 + i * 2, none⟩ = some (.int .i64 dx) := by
        have := hc.1
        rwa [show (i + 1) * 2 = 2 + i * 2 from by omega] at this
      have e1 : wr.cell? ⟨eb, 2 + i * 2 + 1, none⟩ = some (.int .i64 dy) := by
        have := hc.2
        rwa [show (i + 1) * 2 + 1 = 2 + i * 2 + 1 from by omega] at this
      clear hc hgi HT HT' hMV hMV' hAC hNX
      go_wp2_with fail
      have hbA := Joins.below_alloc1 wr (.cells #[.int .i64 dx, .int .i64 dy] 29)
      have hX4 : (wr.alloc (.cells #[.int .i64 dx, .int .i64 dy] 29)).heap[wr.heap.size]? = some (.cells #[.int .i64 dx, .int .i64 dy] 29 (0, 0)) := heap_alloc_last wr _
      obtain ⟨W4, hW4⟩ : ∃ W4, wr.alloc (.cells #[.int .i64 dx, .int .i64 dy] 29) = W4 := ⟨_, rfl⟩
      obtain ⟨ob, hob⟩ : ∃ ob, wr.heap.size = ob := ⟨_, rfl⟩
      rw [hW4] at hX4 hbA ⊢
      rw [hob] at hX4 ⊢
      have HA4 : Hid (∀ W, Below W4.heap.size W4 W → W.heap[mb6]? = some (.cells AC 113 (0, 0))) := fun W hb => (hb.block _ (Nat.lt_of_lt_of_le l3 hbA.size)).trans ((hbA.block _ l3).trans A3.out)
      have HS4 : Hid (∀ W, Below W4.heap.size W4 W → W.heap[w.heap.size]? = some (.cells M 113 (0, 0))) := fun W hb => (hb.block _ (Nat.lt_of_lt_of_le (by omega) hbA.size)).trans ((hbA.block _ (by omega)).trans M3.out)
      have HR4 : Hid (∀ W, Below W4.heap.size W4 W → W.heap[w.heap.size + 1 + 1]? = some (.cells zerosP 113 (0, 0))) := fun W hb => (hb.block _ (Nat.lt_of_lt_of_le (by omega) hbA.size)).trans ((hbA.block _ (by omega)).trans R3.out)
      have HX4 : Hid (∀ W, Below W4.heap.size W4 W → W.cell? ⟨ob, 0, none⟩ = some (.int .i64 dx) ∧ W.cell? ⟨ob, 1, none⟩ = some (.int .i64 dy)) := fun W hb => by
        have h := (hb.block _ (Array.getElem?_eq_some_iff.1 hX4).1).trans hX4
        exact ⟨by rw [Joins.cell_of_block h 0]; rfl, by rw [Joins.cell_of_block h 1]; rfl⟩
      have HB4 := Lib.hid (B3.out.trans (hbA.mono B3.out.size))
      clear hX4 hbA hW4 hob e0 e1
      refine wp_region_inv_at (by kernel_rfl) (fun A0 L A W => ∃ (b0 b1 b2 b3 b4 b5 b6 : Bool) (v24 v25 v26 v27 v28 v29 : Value), L = #[b0, b1, b2, b3, b4, b5, b6] ∧ A = ((((((A0.put (some 24) v24).put (some 25) v25).put (some 26) v26).put (some 27) v27).put (some 28) v28).put (some 29) v29) ∧ (∃ Wp, Below W4.heap.size W4 Wp ∧ W = (if b6 = true then Wp.setRow mb6 NX else Wp)) ∧ Hid (b0 = true → v24 = .agg AC) ∧ Hid (b1 = true → v25 = .agg M) ∧ Hid (b2 = true → v26 = .agg #[.int .i64 dx, .int .i64 dy]) ∧ Hid (b3 = true → v27 = .agg MV) ∧ Hid (b4 = true → v28 = .func (.func 85) #[.int .i64 k] #[]) ∧ Hid (b5 = true → v29 = .agg NX) ∧ Hid ((b0 = false → b6 = false) ∧ (b1 = false → b6 = false) ∧ (b2 = false → b6 = false) ∧ (b3 = false → b6 = false) ∧ (b4 = false → b6 = false) ∧ (b5 = false → b6 = false))) ?_ ?_ ?_
      · intro A0
        refine ⟨false, false, false, false, false, false, false, A0.tmps.getD 24 undef, A0.tmps.getD 25 undef, A0.tmps.getD 26 undef, A0.tmps.getD 27 undef, A0.tmps.getD 28 undef, A0.tmps.getD 29 undef, rfl, (by simp only [put_self]), ⟨_, (Below.refl _ _).drew, rfl⟩, Lib.hid (fun hf => by cases hf), Lib.hid (fun hf => by cases hf), Lib.hid (fun hf => by cases hf), Lib.hid (fun hf => by cases hf), Lib.hid (fun hf => by cases hf), Lib.hid (fun hf => by cases hf), Lib.hid ⟨fun _ => rfl, fun _ => rfl, fun _ => rfl, fun _ => rfl, fun _ => rfl, fun _ => rfl⟩⟩
      · intro L A W hI i hi o ho K' hK
        have hlt := (ready_left hi).1
        have hun := (ready_left hi).2
        have haf := ready_after hi ho
        clear hi
        obtain ⟨b0, b1, b2, b3, b4, b5, b6, v24, v25, v26, v27, v28, v29, rfl, rfl, hB, h0, h1, h2, h3, h4, h5, p⟩ := hI
        have hc : i = 0 ∨ i = 1 ∨ i = 2 ∨ i = 3 ∨ i = 4 ∨ i = 5 ∨ i = 6 := by
          simp at hlt
          omega
        rcases hc with rfl | rfl | rfl | rfl | rfl | rfl | rfl
        all_goals (obtain rfl := Option.some.inj ho; clear ho; simp [Region.binds] at haf hun; (try simp only [List.getElem_toArray, List.getElem_cons_zero, List.getElem_cons_succ]); simp only [Act.put, List.setIfInBounds_toArray, List.set_cons_zero, List.set_cons_succ])
        · -- operation 0
          replace hK := Lib.hid hK
          have hlast : b6 = false := p.out.1 hun
          subst hlast
          obtain ⟨Wp, hB, hWp⟩ := hB
          have hWq : W = Wp := by simpa using hWp
          clear hWp
          subst hWq
          have qA := HA4.out W hB
          have qM := HS4.out W hB
          have q0 := (HX4.out W hB).1
          have q1 := (HX4.out W hB).2
          subst hun
          rw [if_pos (by simp [Region.wanted])]
          refine wp_load_row 113 _ rfl mb6 rfl 113 AC (0, 0) _ qA Tryd.underlying113 rfl HIa.out ?_
          exact hK.out _ _ ⟨true, b1, b2, b3, b4, b5, false, .agg AC, v25, v26, v27, v28, v29, rfl, (by simp only [Act.put, List.setIfInBounds_toArray, List.set_cons_zero, List.set_cons_succ]), ⟨_, hB, rfl⟩, Lib.hid (fun _ => rfl), h1, h2, h3, h4, h5, Lib.hid ⟨(fun hf => by cases hf), (fun _ => rfl), (fun _ => rfl), (fun _ => rfl), (fun _ => rfl), (fun _ => rfl)⟩⟩
        · -- operation 1
          replace hK := Lib.hid hK
          have hlast : b6 = false := p.out.2.1 hun
          subst hlast
          obtain ⟨Wp, hB, hWp⟩ := hB
          have hWq : W = Wp := by simpa using hWp
          clear hWp
          subst hWq
          have qA := HA4.out W hB
          have qM := HS4.out W hB
          have q0 := (HX4.out W hB).1
          have q1 := (HX4.out W hB).2
          subst hun
          rw [if_pos (by simp [Region.wanted])]
          refine wp_load_row 113 _ rfl w.heap.size rfl 113 M (0, 0) _ qM Tryd.underlying113 rfl HI.out ?_
          exact hK.out _ _ ⟨b0, true, b2, b3, b4, b5, false, v24, .agg M, v26, v27, v28, v29, rfl, (by simp only [Act.put, List.setIfInBounds_toArray, List.set_cons_zero, List.set_cons_succ]), ⟨_, hB, rfl⟩, h0, Lib.hid (fun _ => rfl), h2, h3, h4, h5, Lib.hid ⟨(fun _ => rfl), (fun hf => by cases hf), (fun _ => rfl), (fun _ => rfl), (fun _ => rfl), (fun _ => rfl)⟩⟩
        · -- operation 2
          replace hK := Lib.hid hK
          have hlast : b6 = false := p.out.2.2.1 hun
          subst hlast
          obtain ⟨Wp, hB, hWp⟩ := hB
          have hWq : W = Wp := by simpa using hWp
          clear hWp
          subst hWq
          have qA := HA4.out W hB
          have qM := HS4.out W hB
          have q0 := (HX4.out W hB).1
          have q1 := (HX4.out W hB).2
          subst hun
          go_simp
          exact hK.out _ _ ⟨b0, b1, true, b3, b4, b5, false, v24, v25, .agg #[.int .i64 dx, .int .i64 dy], v27, v28, v29, rfl, (by simp only [Act.put, List.setIfInBounds_toArray, List.set_cons_zero, List.set_cons_succ]), ⟨_, hB, rfl⟩, h0, h1, Lib.hid (fun _ => rfl), h3, h4, h5, Lib.hid ⟨(fun _ => rfl), (fun _ => rfl), (fun hf => by cases hf), (fun _ => rfl), (fun _ => rfl), (fun _ => rfl)⟩⟩
        · -- operation 3
          replace hK := Lib.hid hK
          have hlast : b6 = false := p.out.2.2.2.1 hun
          subst hlast
          obtain ⟨Wp, hB, hWp⟩ := hB
          have hWq : W = Wp := by simpa using hWp
          clear hWp
          subst hWq
          have qA := HA4.out W hB
          have qM := HS4.out W hB
          have q0 := (HX4.out W hB).1
          have q1 := (HX4.out W hB).2
          obtain rfl := h1.out (by simp only [haf])
          obtain rfl := h2.out (by simp only [haf])
          subst hun
          go_simp
          refine (CV.out _).mono ?_
          rintro e W' ⟨rfl, hb⟩
          have hkept := fun kb (hk : kb < W.heap.size) => hb.block kb hk
          exact hK.out _ _ ⟨b0, b1, b2, true, b4, b5, false, v24, .agg M, .agg #[.int .i64 dx, .int .i64 dy], .agg MV, v28, v29, rfl, (by simp only [Act.put, List.setIfInBounds_toArray, List.set_cons_zero, List.set_cons_succ]), ⟨_, hB.trans (hb.mono hB.size), rfl⟩, h0, Lib.hid (fun _ => rfl), Lib.hid (fun _ => rfl), Lib.hid (fun _ => rfl), h4, h5, Lib.hid ⟨(fun _ => rfl), (fun _ => rfl), (fun _ => rfl), (fun hf => by cases hf), (fun _ => rfl), (fun _ => rfl)⟩⟩
        · -- operation 4
          replace hK := Lib.hid hK
          have hlast : b6 = false := p.out.2.2.2.2.1 hun
          subst hlast
          obtain ⟨Wp, hB, hWp⟩ := hB
          have hWq : W = Wp := by simpa using hWp
          clear hWp
          subst hWq
          have qA := HA4.out W hB
          have qM := HS4.out W hB
          have q0 := (HX4.out W hB).1
          have q1 := (HX4.out W hB).2
          subst hun
          go_simp
          exact hK.out _ _ ⟨b0, b1, b2, b3, true, b5, false, v24, v25, v26, v27, .func (.func 85) #[.int .i64 k] #[], v29, rfl, (by simp only [Act.put, List.setIfInBounds_toArray, List.set_cons_zero, List.set_cons_succ]), ⟨_, hB, rfl⟩, h0, h1, h2, h3, Lib.hid (fun _ => rfl), h5, Lib.hid ⟨(fun _ => rfl), (fun _ => rfl), (fun _ => rfl), (fun _ => rfl), (fun hf => by cases hf), (fun _ => rfl)⟩⟩
        · -- operation 5
          replace hK := Lib.hid hK
          have hlast : b6 = false := p.out.2.2.2.2.2 hun
          subst hlast
          obtain ⟨Wp, hB, hWp⟩ := hB
          have hWq : W = Wp := by simpa using hWp
          clear hWp
          subst hWq
          have qA := HA4.out W hB
          have qM := HS4.out W hB
          have q0 := (HX4.out W hB).1
          have q1 := (HX4.out W hB).2
          obtain rfl := h0.out (by simp only [haf])
          obtain rfl := h3.out (by simp only [haf])
          obtain rfl := h4.out (by simp only [haf])
          subst hun
          go_simp
          refine (CG.out _).mono ?_
          rintro e W' ⟨rfl, hb⟩
          have hkept := fun kb (hk : kb < W.heap.size) => hb.block kb hk
          exact hK.out _ _ ⟨b0, b1, b2, b3, b4, true, false, .agg AC, v25, v26, .agg MV, .func (.func 85) #[.int .i64 k] #[], .agg NX, rfl, (by simp only [Act.put, List.setIfInBounds_toArray, List.set_cons_zero, List.set_cons_succ]), ⟨_, hB.trans (hb.mono hB.size), rfl⟩, Lib.hid (fun _ => rfl), h1, h2, Lib.hid (fun _ => rfl), Lib.hid (fun _ => rfl), Lib.hid (fun _ => rfl), Lib.hid ⟨(fun _ => rfl), (fun _ => rfl), (fun _ => rfl), (fun _ => rfl), (fun _ => rfl), (fun hf => by cases hf)⟩⟩
        · -- operation 6
          replace hK := Lib.hid hK
          subst hun
          obtain ⟨Wp, hB, hWp⟩ := hB
          have hWq : W = Wp := by simpa using hWp
          clear hWp
          subst hWq
          have qA := HA4.out W hB
          have qM := HS4.out W hB
          have q0 := (HX4.out W hB).1
          have q1 := (HX4.out W hB).2
          obtain rfl := h5.out (by simp only [haf])
          rw [if_pos (by simp [Region.wanted])]
          refine wp_store_row 113 _ _ rfl mb6 NX rfl rfl 113 AC qA HIn.out HZn.out HOn.out ?_
          exact hK.out _ _ ⟨b0, b1, b2, b3, b4, b5, true, v24, v25, v26, v27, v28, .agg NX, rfl, (by simp only [Act.put, List.setIfInBounds_toArray, List.set_cons_zero, List.set_cons_succ]), ⟨_, hB, rfl⟩, h0, h1, h2, h3, h4, Lib.hid (fun _ => rfl), Lib.hid ⟨(fun hf => absurd (show false = true from hf.symm.trans (by simp only [haf])) (by decide)), (fun hf => absurd (show false = true from hf.symm.trans (by simp only [haf])) (by decide)), (fun hf => absurd (show false = true from hf.symm.trans (by simp only [haf])) (by decide)), (fun hf => absurd (show false = true from hf.symm.trans (by simp only [haf])) (by decide)), (fun hf => absurd (show false = true from hf.symm.trans (by simp only [haf])) (by decide)), (fun hf => absurd (show false = true from hf.symm.trans (by simp only [haf])) (by decide))⟩⟩
      intro L A W hI hr
      obtain ⟨b0, b1, b2, b3, b4, b5, b6, v24, v25, v26, v27, v28, v29, rfl, rfl, hB, h0, h1, h2, h3, h4, h5, p⟩ := hI
      have d0 := ready_done hr 0 _ rfl (by simp [Region.binds])
      have d1 := ready_done hr 1 _ rfl (by simp [Region.binds])
      have d2 := ready_done hr 2 _ rfl (by simp [Region.binds])
      have d4 := ready_done hr 4 _ rfl (by simp [Region.binds])
      simp at d0 d1 d2 d4
      subst d0 d1 d2 d4
      have d3 := ready_done hr 3 _ rfl (by simp [Region.binds])
      simp at d3
      subst d3
      have d5 := ready_done hr 5 _ rfl (by simp [Region.binds])
      simp at d5
      subst d5
      have d6 := ready_done hr 6 _ rfl (by simp [Region.binds])
      simp at d6
      subst d6
      obtain rfl := h0.out rfl
      obtain rfl := h1.out rfl
      obtain rfl := h2.out rfl
      obtain rfl := h3.out rfl
      obtain rfl := h4.out rfl
      obtain rfl := h5.out rfl
      obtain ⟨Wp, hB, hWp⟩ := hB
      have hWq : W = Wp.setRow mb6 NX := by simpa using hWp
      clear hWp
      subst hWq
      simp only [Act.put, List.setIfInBounds_toArray, List.set_cons_zero, List.set_cons_succ]
      clear hr h0 h1 h2 h3 h4 h5 p
      have HB5 := Lib.hid hB
      clear hB
      have HAp := Lib.hid (HA4.out Wp HB5.out)
      have HSp := Lib.hid (HS4.out Wp HB5.out)
      have HRp := Lib.hid (HR4.out Wp HB5.out)
      have HBp := Lib.hid (HB4.out.trans (HB5.out.mono HB4.out.size))
      clear HA4 HS4 HR4 HX4 CV CG
      go_wp2
      go_roundw
      case rel => exact ⟨i + 1, by omega, by go_num, (setRow_other Wp mb6 w.heap.size NX (by omega)).trans HSp.out, (setRow_other Wp mb6 (w.heap.size + 1 + 1) NX (by omega)).trans HRp.out, by rw [HNX.out]; exact setRow_heap _ _ _ _ _ _ HAp.out, setRow_below HBp.out (by omega) _⟩
      case measure => simp [intOf]; omega
    · obtain rfl : n = i + 1 := by omega
      rw [HTn.out, HPR.out] at A3
      clear HCs CVa CGa HTk
      go_wp2_with (first | (refine wpList_load_row rfl 113 _ rfl mb6 rfl 113 PR (0, 0) _ A3.out Tryd.underlying113 rfl HI4.out ?_) | (refine wpList_store_row rfl 113 _ _ rfl (w.heap.size + 1 + 1) PR rfl rfl 113 zerosP R3.out HI4.out HI5.out HI6.out ?_))
      exact bodyPost_ret (results_cell1 (p := 6) (ty := 113) Tryd.results135 _ _ (w.heap.size + 1 + 1) 113 PR (0, 0) _ rfl (setRow_heap _ _ _ _ _ _ R3.out) Tryd.underlying113 rfl HI4.out) rfl ⟨rfl, setRow_below B3.out (by omega) _⟩
end Go.Proofs.YtabkkpifkkgpeaaDoor
